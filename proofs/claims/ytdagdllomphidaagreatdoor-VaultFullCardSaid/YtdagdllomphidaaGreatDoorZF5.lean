/- SlotsT, VgEff, VgAdds, VgAb, VgTb1, Ims, AppAt, VgTb5, FMem, FPut, FIns, FCopy, FCut, FEq, FPack, DkUsed, DkBack, DkWrite2, DkFlush, DkWake, DkZero, DkIn, DkNil. -/
import Derived.Test.YtdagdllomphidaaGreatDoorZF4
import Derived.Laws.BitsAllLaws
import Derived.RangeFuncNested
import Derived.RangeFuncBound
import Derived.RangeFuncCalls
import Derived.RangeFuncLeaves
import Derived.Shelf.Abstract
import Derived.Shelf.RegionOpen
import Derived.OwnWalkIn
import Derived.TacticsInMore
import Derived.LoopNIn
import Derived.LoopIn
import Derived.RegionTactic
import Derived.BigRegion
set_option linter.unusedVariables false
set_option linter.unusedSimpArgs false
set_option maxHeartbeats 30000000
set_option maxRecDepth 100000
namespace Go.Proofs.YtdagdllomphidaaGreatDoor
open _root_.Go.Proofs.Tryz Go Go.RowKit
section
variable {P:Program} {ops:Array Oper} {Q:Exit→Act→World→Prop}
def qaG (ops:Array Oper)(m:Nat)(ds:List Tmp)(size:Nat)(fs:List Nat):Bool :=
 decide (m≤ops.size)&&decide (ds.length=m)&&decide ds.Nodup&&ds.all (fun d=>decide (d<size)) &&
 (List.range m).all (fun i=>match ops[i]? with
  | some o=>o.guard.isNone&&o.dst == ds[i]? && (match o.op with | .select .. => false|_=>true) &&
   o.after.all (fun e=>!Region.binds .any e || decide (e.on<i)) &&
   o.op.operands.toList.all (fun x=>match x with
    | .tmp t=>match ds.idxOf? t with
     | some j=>zG ops i j
     | none=>true
    | _=>true)
  | none=>false) &&
 (List.range ops.size).all (fun j=>decide (j<m) || (match ops[j]? with
  | some o=>(o.after.any fun e=>Region.binds .any e&&decide (m≤e.on)) || (List.range m).all (fun i=>fs.contains i || zG ops j i || (List.range m).any (fun k=>zG ops k i))
  | none=>false))
structure qcG(ops:Array Oper)(m:Nat)(ds:List Tmp)(size:Nat)(fs:List Nat):Prop where
 le:m≤ops.size
 len:ds.length=m
 nodup:ds.Nodup
 small:∀d∈ds,d<size
 each:∀i,i<m→∃o,ops[i]?=some o∧o.guard=none∧o.dst=ds[i]? ∧ (∀cs b,o.op ≠ .select cs b)∧(∀e∈o.after,Region.binds .any e=true→e.on<i) ∧
  (∀t j,Operand.tmp t∈o.op.operands→ds.idxOf? t=some j→zG ops i j=true)
 tail:∀j o,m≤j→ops[j]?=some o→(∃e∈o.after,Region.binds .any e=true∧m≤e.on)∨(∀i,i<m→i∈fs∨zG ops j i=true∨∃k,k<m∧zG ops k i=true)
theorem qiD{m:Nat}{ds:List Tmp}{size:Nat}{fs:List Nat}(h:qaG ops m ds size fs=true):qcG ops m ds size fs:=by
 unfold qaG at h;simp only[Bool.and_eq_true,decide_eq_true_eq,List.all_eq_true,List.mem_range]at h;obtain⟨⟨⟨⟨⟨h1,h2⟩,h3⟩,h4⟩,h5⟩,h6⟩:=h;refine⟨h1,h2,h3,h4,fun i hi=>?_,fun j o hj ho=>?_⟩
 ·have h:=h5 i hi;cases ho:ops[i]? with
  | none=>simp[ho]at h
  | some o =>
   simp only[ho,Bool.and_eq_true]at h;obtain⟨⟨⟨⟨g1,g2⟩,g3⟩,g4⟩,g5⟩:=h;refine⟨o,rfl,by simpa using g1,by simpa using g2,fun cs b hs=>by simp[hs]at g3,fun e he hb=>?_,fun t j ht hj=>?_⟩
   ·have:=Array.all_eq_true_iff_forall_mem.1 g4 e he;simpa[hb]using this
   ·have:=List.all_eq_true.1 g5 (.tmp t) (by simpa using ht);simpa[hj]using this
 ·have hlt:j<ops.size:=(Array.getElem?_eq_some_iff.1 ho).1;have h:=h6 j hlt;simp only[ho,Bool.or_eq_true,decide_eq_true_eq]at h;rcases h with h|h|h
  ·omega
  ·obtain⟨e,he,hb⟩:=Array.any_eq_true'.1 h;simp only[Bool.and_eq_true,decide_eq_true_eq]at hb;exact .inl ⟨e,he,hb.1,hb.2⟩
  ·refine .inr fun i hi=>?_;have:=List.all_eq_true.1 h i (by simpa using hi);simp only[Bool.or_eq_true,List.any_eq_true,List.mem_range]at this;rcases this with(h|h)|h
   ·exact .inl (by simpa using h)
   ·exact .inr (.inl h)
   ·exact .inr (.inr h)
variable {a0:Act} {w0:World} {m:Nat} {ds:List Tmp} {G:Nat→Value→World→Prop}
theorem oL {fs:List Nat}(ok:qcG ops m ds a0.tmps.size fs)
    (mono:∀i v w w',i<m→G i v w→Below w.heap.size w w'→G i v w')
    (step:∀i o vs w,i<m→ops[i]?=some o→Below w0.heap.size w0 w→(∀j,zG ops i j=true→G j (vs j) w) →
     jU P (fun v w'=>Below w.heap.size w w'∧G i v w') ((execOp (valOf a0 ds vs) o).run P w))
    (fin:∀vs w',Below w0.heap.size w0 w'→(∀i,i<m→G i (vs i) w')→wpAny P .any ops Q (ops.size-m) (xz ops.size m) (qW vs ds a0) w') :
    ∀(r:Nat) (listed:Array Bool) (vs:Nat→Value) (a:Act) (w:World),qpd ops a0 w0 m ds G listed vs a w→(∀i∈fs,listed.getD i false=true)→xa m listed=r→wpAny P .any ops Q (ops.size-m+r) listed a w
 | 0,listed,vs,a,w,hI,hF,hr=>by
  have hall:=dr hr;have hl:listed=xz ops.size m:=by
   apply Array.ext
   ·simp[xz,hI.size]
   ·intro i h1 h2;have e:listed.getD i false=listed[i]:=by simp[h1]
    by_cases hi:i<m
    ·have:=hall i hi;rw[e]at this;simp[xz,this,hi]
    ·have:=hI.tail i (by omega);rw[e]at this;simp[xz,this,hi]
  have ha:a=qW vs ds a0:=by
   rw[hI.act];exact xW _ _ _ _ ds 0 a0 fun j _ hj=>⟨hall j (by rw[← ok.len];omega),fun _=>rfl⟩
  rw[hl,ha,Nat.add_zero];exact fin vs w hI.ext fun i hi=>hI.good i hi (hall i hi)
 | r+1,listed,vs,a,w,hI,hF,hr=>by
  refine⟨fun h0=>?_,fun i hi=>?_⟩
  ·
   exfalso;have hex:∃i,i<m∧listed.getD i false=false:=by
    apply Classical.byContradiction;intro hn;have:xa m listed=0:=by
     unfold xa;rw[List.countP_eq_zero];intro i hi;have hi':=List.mem_range.1 hi;cases hb:listed.getD i false
     ·exact absurd ⟨i,hi',hb⟩ hn
     ·simp
    omega
   have key:∀n i,i<n→i<m→listed.getD i false=false→False:=by
    intro n
    induction n with
    | zero=>intro i h;omega
    | succ n ih =>
     intro i hin vu hf;obtain⟨o,ho,_,_,_,xJ,_⟩:=ok.each i vu;have hs:i<listed.size:=by rw[hI.size];exact Nat.lt_of_lt_of_le vu ok.le
     have:i∈Region.ready .any ops listed:=by
      rw[mem_ready];refine⟨by rw[zX hs];exact hf,o,ho,fun e he hb=>?_⟩;cases hb':listed.getD e.on false
      ·exact(ih e.on (by have:=xJ e he hb;omega) (by have:=xJ e he hb;omega) hb').elim
      ·rfl
     rw[h0]at this;cases this
   obtain⟨i,vu,hf⟩:=hex;exact key (i+1) i (by omega) vu hf
  ·obtain⟨hun,o,ho,hall⟩:=mem_ready.1 hi;have hio:i<ops.size:=(Array.getElem?_eq_some_iff.1 ho).1;have hs:i<listed.size:=by rw[hI.size];exact hio
   have hf:listed.getD i false=false:=by rw[← zX hs];exact hun
   by_cases vu:i<m
   ·obtain⟨o',ho',hgd,qe3,qhG,xJ,qhH⟩:=ok.each i vu;obtain rfl:o=o':=Option.some.inj (ho.symm.trans ho');unfold wpOp;simp only[ho];have hw:Region.wanted o (yielded ops a.tmps)=true:=by simp[Region.wanted,hgd]
    rw[if_pos hw]
    left
    have hρ:execOp a.eval o=execOp (valOf a0 ds vs) o:=by
     refine execOp_congr o qhG fun x hx=>?_;rw[hI.act];cases x with
     | tmp t =>
      cases hj:ds.idxOf? t with
      | none =>
       rw[jh hj];exact uq _ _ t ds 0 a0 (by rw[List.idxOf?_eq_none_iff]at hj;exact hj)
      | some j =>
       rw[ji hj];have hdj:ds[j]?=some t:=by
        have:=List.of_findIdx?_eq_some (p:=(· == t)) (xs:=ds) (i:=j) (by simpa[List.idxOf?]using hj);cases hd:ds[j]? with
        | none=>simp[hd]at this
        | some d=>simp[hd]at this;rw[this]
       obtain⟨e,he,hb,rfl⟩:=xC ho (qhH t j hx hj);have:=vO (fun i=>listed.getD i false) vs t ds 0 e.on a0 ok.nodup hdj (by simpa using hall e he hb) (ok.small t (List.mem_of_getElem? hdj));simpa using this
     | const v=>simp only[valOf];rfl
     | global g=>simp only[valOf];rfl
     | func f=>simp only[valOf];rfl
    have hst:=step i o vs w vu ho hI.ext fun j hj=>by
     obtain⟨e,he,hb,rfl⟩:=xC ho hj;exact hI.good e.on (by have:=xJ e he hb;omega) (hall e he hb)
    rw[← hρ]at hst;refine wF hst fun v w' ⟨vJ,hG⟩=>?_;have hdi:∃d,ds[i]?=some d:=⟨ds[i]'(by rw[ok.len];exact vu),List.getElem?_eq_getElem _⟩;obtain⟨d,hd⟩:=hdi;refine oL ok mono step fin r (listed.setIfInBounds i true) (xn vs i v) (a.put o.dst v) w' ⟨?_,?_,?_,?_,?_,?_⟩ (fun k hk=>getD_set_true (hF k hk)) ?_
    ·simp[hI.size]
    ·intro j hj;rw[getD_set_ne false (by omega)];exact hI.tail j hj
    ·intro j oj hoj hl e he hb;by_cases gj:j=i
     ·subst gj;obtain rfl:o=oj:=Option.some.inj (ho.symm.trans hoj);exact getD_set_true (hall e he hb)
     ·rw[getD_set_ne false (Ne.symm gj)]at hl;exact getD_set_true (hI.closed j oj hoj hl e he hb)
    ·exact qbS hI.ext vJ
    ·intro j hj hl;by_cases gj:j=i
     ·subst gj;simpa[xn]using hG
     ·rw[getD_set_ne false (Ne.symm gj)]at hl;have:=mono j _ w w' hj (hI.good j hj hl) vJ;simpa[xn,gj]using this
    ·rw[qe3,hd,hI.act];have:=uo (fun i=>listed.getD i false) vs i v ds 0 a0 d ok.nodup (Nat.zero_le _) (by simpa using hd) hf;rw[this,ku hs]
    ·have:=wG vu hs hf;omega
   ·exfalso;have hex:∃k,k<m∧listed.getD k false=false:=by
     apply Classical.byContradiction;intro hn;have:xa m listed=0:=by
      unfold xa;rw[List.countP_eq_zero];intro k hk;cases hb:listed.getD k false
      ·exact absurd ⟨k,List.mem_range.1 hk,hb⟩ hn
      ·simp
     omega
    rcases ok.tail i o (by omega) ho with⟨e,he,hb,hme⟩|qtt
    ·have h1:=hall e he hb;rw[hI.tail e.on hme]at h1;cases h1
    ·have key:∀n k,m-k≤n→k<m→listed.getD k false=true:=by
        intro n
        induction n with
        | zero=>intro k h1 h2;omega
        | succ n ih =>
         intro k h1 h2;rcases qtt k h2 with h|h|⟨k',uV,h⟩
         ·exact hF k h
         ·obtain⟨e,he,hb,rfl⟩:=xC ho h;exact hall e he hb
         ·obtain⟨ok',qli,_,_,_,xJ,_⟩:=ok.each k' uV;obtain⟨e,he,hb,rfl⟩:=xC qli h;have hlt:=xJ e he hb;exact hI.closed k' ok' qli (ih k' (by omega) uV) e he hb
     obtain⟨k,hk,hkf⟩:=hex;rw[key m k (by omega) hk]at hkf;cases hkf
theorem vh {id:Nat}{a:Act}{w:World}(hm:P.follows .mixedOrders=true)(m:Nat)(ds:List Tmp)(jL:qaG ops m ds a.tmps.size [0]=true)(G:Nat→Value→World→Prop)
    (o0:Oper) (v0:Value) (ho0:ops[0]?=some o0) (h0m:0<m) (hs:Region.noSelect ops=true) (hf:Region.free .any ops (Array.replicate ops.size false) 0=true) (hr:(Region.ready .any ops (Array.replicate ops.size false)).contains 0=true)
    (hQ:∀c a w,Q (.panic c) (a.put o0.dst v0) w→Q (.panic c) a w) (hy:Yields P ops o0 v0 a) (hG0:∀W,G 0 v0 W)
    (mono:∀i v w w',i<m→G i v w→Below w.heap.size w w'→G i v w')
    (step:∀i o vs ρ w',i<m→ops[i]?=some o→Reads a ds vs ρ→(∀f,ρ (.func f)=a.eval (.func f))→Below w.heap.size w w'→(∀j,zG ops i j=true→G j (vs j) w') →
     jU P (fun v w''=>Below w'.heap.size w' w''∧G i v w'') ((execOp ρ o).run P w'))
    (fin:∀vs w',Below w.heap.size w w'→(∀i,i<m→G i (vs i) w')→wpAny P .any ops Q (ops.size-m) (xz ops.size m) (qW vs ds a) w') :
    (Code.region id ops true).wp P Q a w:=by
 have ok:=qiD jL;have hd:Below w.heap.size w { w with drawn:=w.drawn+1 }:=⟨rfl,rfl,rfl,Nat.le_refl _,fun _ _=>rfl⟩;refine wp_region_any hm ?_;have hc:xa m (Array.replicate ops.size false)=m:=by
  have:=List.countP_eq_length (l:=List.range m) (p:=fun i=>!(Array.replicate ops.size false).getD i false) |>.2 fun i _=>by rw[zV];rfl
  unfold xa;rw[this,List.length_range]
 have ha:a=qK (fun i=>(Array.replicate ops.size false).getD i false) (fun _=>undef) ds 0 a:=by
  have:qK (fun i=>(Array.replicate ops.size false).getD i false) (fun _=>undef) ds 0 a=qK (fun _=>false) (fun _=>undef) ds 0 a:=xW _ _ _ _ ds 0 a fun j _ _=>⟨zV _ j,fun _=>rfl⟩;rw[this];exact(uW ds 0 a).symm
 have hsz:0<(Array.replicate ops.size false).size:=by
  have:=ok.le;simp;omega
 have hc2:=wG (listed:=Array.replicate ops.size false) h0m hsz (zV _ 0);obtain⟨o',ho',hgd,qe3,qhG,xJ,qhH⟩:=ok.each 0 h0m;obtain rfl:o0=o':=Option.some.inj (ho0.symm.trans ho');have hdi:∃d,ds[0]?=some d:=⟨ds[0]'(by rw[ok.len];exact h0m),List.getElem?_eq_getElem _⟩;obtain⟨d,hdd⟩:=hdi;have hI:qpd ops a w m ds G ((Array.replicate ops.size false).setIfInBounds 0 true) (xn (fun _=>undef) 0 v0) (a.put o0.dst v0) { w with drawn:=w.drawn+1 }:={
  size:=by simp
  tail:=fun j hj=>by
   rw[getD_set_ne false (by omega)];exact zV _ j
  closed:=fun i o hio h e he hb=>by
   by_cases hi:i=0
   ·subst hi;obtain rfl:o0=o:=Option.some.inj (ho0.symm.trans hio);have:=xJ e he hb;omega
   ·rw[getD_set_ne false (Ne.symm hi),zV]at h;cases h
  ext:=hd
  good:=fun i _ h=>by
   by_cases hi:i=0
   ·subst hi;simpa[xn]using hG0 _
   ·rw[getD_set_ne false (Ne.symm hi),zV]at h;cases h
  act:=by
   have:=uo (fun i=>(Array.replicate ops.size false).getD i false) (fun _=>undef) 0 v0 ds 0 a d ok.nodup (Nat.zero_le _) (by simpa using hdd) (zV _ 0);rw[qe3,hdd]
   conv=>lhs;rw[ha]
   rw[this,ku hsz] }
 have h1:=oL (Q:=Q) (fs:=[0]) ok mono (fun i o vs w' hi ho hb hG=>step i o vs (valOf a ds vs) w' hi ho ⟨fun _ _ h=>ji h,fun _ h=>jh h,fun _=>rfl⟩ (fun _=>rfl) hb hG) fin (m-1) _ _ _ _ hI (fun i hi=>by
  obtain rfl:i=0:=by simpa using hi
  simp;have:=ok.le;omega) (by omega)
 have e:ops.size=(ops.size-m+(m-1))+1:=by
  have:=ok.le;omega
 have h2:=wpAny_take (P:=P) (md:=.any) (ops:=ops) (Q:=Q) (fuel:=ops.size-m+(m-1)) ho0 hs hf hr hQ hy h1;rw[← e]at h2;exact h2
end
end Go.Proofs.YtdagdllomphidaaGreatDoor
namespace Go.Proofs.YtdagdllomphidaaGreatDoor.vt.pg
open _root_.Go.Proofs.Tryz Go Go.RowKit ib mt im sp
abbrev pt (g:Nat):Value:=.pointer (some ⟨g,0,none⟩)
structure Nx(G:Nat→Prop)(w:World)(g:Nat)(m:Mt):Prop where
 ex:∃A0 A1 A2 c0 c1 c2,qf w g 98 (zj A0 A1 A2 c0 c1 c2 m)∧kA (fun j=>G j∧j≠g) w A0 A1 A2 c0 c1 c2 m
def qiE (G:Nat→Prop)(g:Nat)(m':Mt)(w:World)(e:Ending)(w':World):Prop:=e=.returned (.tuple #[])∧Nx G w' g m'∧ib.qx (fun j=>j=g) w w'
def uI (G:Nat→Prop)(W0:World)(f:Value)(m m':Mt):Prop:=∃k kd,f=.func (.func k) #[] kd∧(∀(a:Array Value) (W:World),Sem.run prog (callFunc k a) W=Result.ok (Next.enter k a) W) ∧
 ∀W g,Below W0.heap.size W0 W→W0.heap.size≤g→Nx G W g m→Calls prog k (#[pt g]++kd) W (qiE G g m' W)
theorem uI.below{G:Nat→Prop}{w w':World}{f:Value}{m m':Mt}(h:uI G w f m m')(hb:Below w.heap.size w w'):uI G w' f m m':=by
 obtain⟨k,kd,h1,h2,h3⟩:=h;exact⟨k,kd,h1,h2,fun W g h4 h5 h6=>h3 W g (qc hb h4) (Nat.le_trans hb.size h5) h6⟩
theorem wj {G:Nat→Prop}{w:World}{g k:Nat}{u:Value}(hg:∀j,G j→j≠g):uD G w (w.setCell ⟨g,k,none⟩ u) :=
 ⟨by simp[World.setCell],fun j hj _=>qz _ _ _ _ _ (hg j hj)⟩
theorem qgZ(w:World)(g k:Nat)(u:Value):ib.qx (fun j=>j=g) w (w.setCell ⟨g,k,none⟩ u):=(ib.qx.refl _ w).setCell ⟨g,k,none⟩ u (.inl rfl)
theorem Nx.drew{G:Nat→Prop}{w:World}{g:Nat}{m:Mt}(h:Nx G w g m):Nx G w.drew g m:=by
 obtain⟨A0,A1,A2,c0,c1,c2,hk,ht⟩:=h.ex;exact⟨A0,A1,A2,c0,c1,c2,hk,ht.stay ⟨Nat.le_refl _,fun j _ _=>rfl⟩⟩
theorem qfw{w:World}(t:TypeId)(v:Value):(w.alloc (.cells #[v] t)).cell? ⟨w.heap.size,0,none⟩=some v:=(qf.new w t #[v]).cell 0
theorem qfx{G:Nat→Prop}{w:World}{g pb:Nat}{m:Mt}{A:Option Addr}{c:Nat}{l:List Int}(hN:Nx G w g m)(hp:w.cell? ⟨pb,0,none⟩=some (.slice A l.length c))(hpb:pb<w.heap.size)(hl:dQ G w A l c)(h1:l.length≤1000)(hG:G w.heap.size) :
    Calls prog 108 #[pt g,pt pb] w (qiE G g { m with live:=l } w):=by
 obtain⟨A0,A1,A2,c0,c1,c2,hk,ht⟩:=hN.ex;have HC:=QH (wS A c l w hl.at_ h1);have HK:=QH hk;have HT:=QH ht;have HZ:=QH (hl.at_.ints.mem);have HG:=QH hG;clear hN hk ht hl h1 hG;go_enter func108,ntmps108;go_wp2_with fail;refine HC.out.mono ?_;rintro e W1 rC;obtain rfl:=rC.1;have hb:=rC.2.2;have zJ:=HK.out.below hb;have gH:=HK.out.lt;have hs:=rC.sl HZ.out (fun j=>G j∧j≠g) ⟨HG.out,by omega⟩;have ht1:=HT.out.below hb;have HN2:Hid (Nx G (W1.setCell ⟨g,0,none⟩ (.slice (some ⟨w.heap.size,0,none⟩) l.length l.length)) g { m with live:=l }) :=
  ⟨_,A1,A2,_,c1,c2,by have:=zJ.qo 0 (.slice (some ⟨w.heap.size,0,none⟩) l.length l.length);simpa[zj]using this,(kA.mk (m:={ m with live:=l }) hs ht1.qa ht1.room ht1.ql ht1.base ht1.target ht1.next ht1.all).stay (wj fun j hj=>hj.2)⟩
 have qy:Hid (ib.qx (fun j=>j=g) w (W1.setCell ⟨g,0,none⟩ (.slice (some ⟨w.heap.size,0,none⟩) l.length l.length))):=(ib.qx.of_below hb).setCell _ _ (.inl rfl);have k0:=zJ.cell 0;have f0:=zJ.frozen 0;have q3W:=zJ.lt;simp only[zj,List.getElem?_toArray,List.getElem?_cons_zero]at k0;clear rC hb zJ hs ht1 HC HK HT;go_wp2_with fail
 go_end0
 exact⟨rfl,HN2.out,qy.out⟩
def MkP (G:Nat→Prop)(R:Mt→Mt→Prop)(w:World)(e:Ending)(w':World):Prop:=∃f,e=.returned f∧(∀m m',R m m'→uI G w' f m m')∧Below w.heap.size w w'
theorem iI {G:Nat→Prop}{w:World}{A:Option Addr}{c:Nat}{l:List Int}(hl:dQ G w A l c)(h1:l.length≤1000)(hG:∀j,w.heap.size≤j→G j) :
    Calls prog 57 #[.slice A l.length c] w (MkP G (fun m m'=>m'={ m with live:=l }) w):=by
 have HB:=QH ((Below.refl w.heap.size w).alloc (Nat.le_refl _) (.cells #[.slice A l.length c] 57));have HL:=QH hl;have HG:=QH hG;clear hl hG;go_enter func57,ntmps57;go_wp2_with fail;go_ret;refine⟨_,rfl,fun m m' hR=>?_,HB.out⟩;subst hR;refine⟨_,_,rfl,fun a W=>by go_simp,fun W g hb hg hN=>?_⟩;have hbb:=qc HB.out hb;have hlt:w.heap.size<(w.alloc (.cells #[.slice A l.length c] 57)).heap.size:=by simp
 exact qfx hN ((hb.cell (p:=⟨w.heap.size,0,none⟩) hlt).trans (qfw _ _)) (Nat.lt_of_lt_of_le hlt hb.size) (HL.out.stay (uD.of_below hbb)) h1 (HG.out _ hbb.size)
theorem qfy{G:Nat→Prop}{w:World}{g pb:Nat}{m:Mt}{n:Nat}(hN:Nx G w g m)(hp:w.cell? ⟨pb,0,none⟩=some (.int .i64 (n:Int)))(hpb:pb<w.heap.size)(hn:n≤m.qa.length) :
    Calls prog 124 #[pt g,pt pb] w (qiE G g { m with qa:=m.qa.take n } w):=by
 obtain⟨A0,A1,A2,c0,c1,c2,hk,ht⟩:=hN.ex;have gK:(m.qa.take n).length=n:=by rw[List.length_take];omega
 have hni:(n:Int)≤(c1:Int):=by have:=ht.room.1;omega
 have HN2:Hid (∀A c,(A=A1∧c=n)→Nx G (w.setCell ⟨g,1,none⟩ (.slice A n c)) g { m with qa:=m.qa.take n }):=fun A c hA=>by
  obtain⟨rfl,rfl⟩:=hA;refine⟨A0,A,A2,c0,c,c2,?_,(kA.mk (m:={ m with qa:=m.qa.take c }) ht.live (ht.qa.take c) ⟨by rw[gK];exact Nat.le_refl _,fun e=>by have:=ht.room.2 e;rw[gK];omega⟩ ht.ql ht.base ht.target ht.next ht.all).stay (wj fun j hj=>hj.2)⟩;have:=hk.qo 1 (.slice A c c);simpa[zj,gK]using this
 have qy:Hid (ib.qx (fun j=>j=g) w (w.setCell ⟨g,1,none⟩ (.slice A1 n n))):=qgZ _ _ _ _;have k1:=hk.cell 1;have f1:=hk.frozen 1;have gH:=hk.lt;simp only[zj,QA,QB,QC]at k1;have h0:(0:Int)≤(n:Int):=by omega
 have hA:A1=none→n=0:=fun e=>by have:=ht.room.2 e;omega
 have HA:=QH hA;clear hN hk ht gK hA;go_enter func124,ntmps124;go_region;go_wp2_with fail
 go_end0
 exact⟨rfl,(HN2.out _ _ ⟨rfl,rfl⟩).drew,qy.out.drew⟩
theorem qiF{G:Nat→Prop}{w:World}(n:Nat):Calls prog 80 #[.int .i64 (n:Int)] w (MkP G (fun m m'=>n≤m.qa.length∧m'={ m with qa:=m.qa.take n }) w):=by
 have HB:=QH ((Below.refl w.heap.size w).alloc (Nat.le_refl _) (.cells #[.int .i64 (n:Int)] 3));go_enter func80,ntmps80;go_wp2_with fail;go_ret;refine⟨_,rfl,fun m m' hR=>?_,HB.out⟩;obtain⟨hn,rfl⟩:=hR;refine⟨_,_,rfl,fun a W=>by go_simp,fun W g hb hg hN=>?_⟩;have hlt:w.heap.size<(w.alloc (.cells #[.int .i64 (n:Int)] 3)).heap.size:=by simp
 exact qfy hN ((hb.cell (p:=⟨w.heap.size,0,none⟩) hlt).trans (qfw _ _)) (Nat.lt_of_lt_of_le hlt hb.size) hn
def snA (a b:Nat)(B:Option Addr)(n:Nat):Array Value:=#[.int .u64 (a:Int),.int .u64 (b:Int),.slice B n n,.bool false]
def AdG (g:Nat)(A1 A:Option Addr)(n c1 c a b:Nat)(l:List Int)(S:Nat):Nat→Value→World→Prop
 | 0,v,_=>v=pt g
 | 1,v,_=>v=pt g
 | 2,v,_=>v=pt g
 | 3,v,_=>v=.pointer (some ⟨g,1,none⟩)
 | 4,v,_=>v=.slice A1 n c1
 | 5,v,_=>v=.int .i64 (n:Int)
 | 6,v,_=>v=.int .i64 (n:Int)
 | 7,v,_=>v=.slice A1 n n
 | 8,v,_=>v=.agg #[.int .u64 (a:Int),.int .u64 (b:Int)]
 | 9,v,_=>v=.slice A l.length c
 | 10,v,w=>∃x,v=.slice (some ⟨x,0,none⟩) l.length l.length∧qf w x 3 (qh l)∧S≤x
 | 11,v,w=>∃x,v=.agg (snA a b (some ⟨x,0,none⟩) l.length)∧qf w x 3 (qh l)∧S≤x
 | 12,v,w=>∃y x,v=.slice (some ⟨y,0,none⟩) 1 1∧qf w y 145 (snA a b (some ⟨x,0,none⟩) l.length)∧qf w x 3 (qh l)∧S≤x
 | _,_,_=>True
theorem oM (g:Nat)(A1 A:Option Addr)(n c1 c a b:Nat)(l:List Int)(S:Nat)(i:Nat)(v:Value)(w w':World)(hi:i<13)(h:AdG g A1 A n c1 c a b l S i v w)(hb:Below w.heap.size w w'):AdG g A1 A n c1 c a b l S i v w':=by
 match i,hi,h with
 | 0,_,h | 1,_,h | 2,_,h | 3,_,h | 4,_,h | 5,_,h | 6,_,h | 7,_,h | 8,_,h | 9,_,h=>exact h
 | 10,_,⟨x,h1,h2,h3⟩=>exact⟨x,h1,h2.below hb,h3⟩
 | 11,_,⟨x,h1,h2,h3⟩=>exact⟨x,h1,h2.below hb,h3⟩
 | 12,_,⟨y,x,h1,h2,h3,h4⟩=>exact⟨y,x,h1,h2.below hb,h3.below hb,h4⟩
theorem qiG{G:Nat→Prop}{W0 w:World}{g pg pb:Nat}{m:Mt}{gd:Gd}{A:Option Addr}{c:Nat}{l:List Int}(hb:Below W0.heap.size W0 w)(hg:W0.heap.size≤g)(hN:Nx G w g m)(hp:qf W0 pg 55 #[.int .u64 (gd.1:Int),.int .u64 (gd.2:Int)])(hp2:qf W0 pb 57 #[.slice A l.length c])(hl:yE W0 A l c)(h1:l.length≤1000)(hgd:x9 gd)(aY:m.qa.length≤100)(hG:∀j,W0.heap.size≤j→G j) :
    Calls prog 114 #[pt g,pt pg,pt pb] w (qiE G g { m with qa:=m.qa++[⟨gd,l,false⟩] } w):=by
 obtain⟨i0,hi,hz0,hz1,hz2⟩:=info_parts qaj;obtain⟨A0,A1,A2,c0,c1,c2,hk,ht⟩:=hN.ex;obtain⟨xs,hm,hx,hrow⟩:=ht.qa.row;have HK:=QH hk;have HT:=QH ht;have HB:=QH hb;have HG:=QH hG;have HP:=QH (hp.below hb);have HP2:=QH (hp2.below hb);have HL:=QH hl;have HGE:=QH hg;have HX:=QH hx;have HM:=QH hm;have qyt:=QH hrow;have HGD:=QH hgd;have HLEN:Hid ((qY xs).length=m.qa.length*4):=by unfold Hid;rw[yg,← hm,List.length_map]
 have ck:=QH ht.room;have hci:((m.qa.length:Nat):Int)≤(c1:Int):=by have:=ht.room.1;omega
 have k1:=hk.cell 1;have gH:=hk.lt;simp only[zj,QA,QB,QC]at k1;clear hN hp hp2 hl hgd hG hk ht hb hg hx hm hrow;obtain⟨a,b⟩:=gd;go_enter func114,ntmps114;go_upto_region 1 with fail;obtain⟨n,hn⟩:=QE m.qa.length;have HN:=QH hn;rw[hn]at HLEN ck hci k1 aY ⊢;have K1:=QH k1;clear hn k1;refine vh (by kernel_rfl) 13 [10,11,12,13,14,15,16,17,18,19,20,21,22] (by kernel_rfl) (AdG g A1 A n c1 c a b l w.heap.size) _ (pt g) rfl (by decide) (by kernel_rfl) (by kernel_rfl) (by kernel_rfl) (fun _ _ _ h=>h) (Or.inl ⟨by rfl,fun w=>by go_simp⟩) (fun _=>rfl) (oM _ _ _ _ _ _ _ _ _ _) ?_ ?_
 ·intro i o vs ρ W zag hop hρ hfn hb hG;have t0:ρ (.tmp 0)=pt g:=hρ.out 0 rfl;have t1:ρ (.tmp 1)=pt pg:=hρ.out 1 rfl;have t2:ρ (.tmp 2)=pt pb:=hρ.out 2 rfl;have t4:ρ (.tmp 4)=.int .i64 (n:Int):=hρ.out 4 rfl;have hc:=hρ.const;have sx:=hρ.at_ 11 1 rfl;have s12:=hρ.at_ 12 2 rfl;have s13:=hρ.at_ 13 3 rfl;have s14:=hρ.at_ 14 4 rfl;have s15:=hρ.at_ 15 5 rfl;have s16:=hρ.at_ 16 6 rfl;have s18:=hρ.at_ 18 8 rfl;have s19:=hρ.at_ 19 9 rfl;have s20:=hρ.at_ 20 10 rfl;have s21:=hρ.at_ 21 11 rfl;have k1:W.cell? ⟨g,1,none⟩=some (.slice A1 n c1):=(hb.cell (p:=⟨g,1,none⟩) gH).trans K1.out;have hpk:=HP.out.below hb;have hpl:=hpk.lt;have p0:=hpk.cell 0;have p1:=hpk.cell 1;have hqk:=HP2.out.below hb;have lO:=hqk.lt;have q0:=hqk.cell 0;simp only[QA,QB,QC]at p0 p1 q0;rcases i with _|_|_|_|_|_|_|_|_|_|_|_|_|i;all_goals (first|omega|skip)
  all_goals simp only[QA,QB,QC,Option.some.injEq]at hop
  all_goals subst hop
  ·exact q9 (w':=W) (by unfold execOp;simp only[t0];go_simp) ⟨Below.refl _ _,rfl⟩
  ·exact q9 (w':=W) (by unfold execOp;simp only[t0];go_simp) ⟨Below.refl _ _,rfl⟩
  ·have g1:vs 1=_:=hG 1 (by kernel_rfl);exact q9 (w':=W) (by unfold execOp;simp only[sx,g1];go_simp) ⟨Below.refl _ _,rfl⟩
  ·have g2:vs 2=_:=hG 2 (by kernel_rfl);exact q9 (w':=W) (by unfold execOp;simp only[s12,g2];go_simp) ⟨Below.refl _ _,rfl⟩
  ·have g3:vs 3=_:=hG 3 (by kernel_rfl);exact q9 (w':=W) (by unfold execOp;simp only[s13,g3];go_simp) ⟨Below.refl _ _,rfl⟩
  ·exact q9 (w':=W) (by unfold execOp;simp only[t4];go_simp) ⟨Below.refl _ _,rfl⟩
  ·exact q9 (w':=W) (by unfold execOp;simp only[t4];go_simp) ⟨Below.refl _ _,rfl⟩
  ·have g4:vs 4=_:=hG 4 (by kernel_rfl);have g5:vs 5=_:=hG 5 (by kernel_rfl);have g6:vs 6=_:=hG 6 (by kernel_rfl);exact q9 (w':=W) (by unfold execOp;simp only[s14,g4,s15,g5,s16,g6];go_simp) ⟨Below.refl _ _,rfl⟩
  ·exact q9 (w':=W) (by unfold execOp;simp only[t1];go_simp) ⟨Below.refl _ _,rfl⟩
  ·exact q9 (w':=W) (by unfold execOp;simp only[t2];go_simp) ⟨Below.refl _ _,rfl⟩
  ·have g9:vs 9=_:=hG 9 (by kernel_rfl);refine qi (f:=67) (args:=#[.slice A l.length c]) (w':=W) (by unfold execOp;simp only[hc,hfn,s19,g9];go_simp) ((wS A c l W ((HL.out.below HB.out).below hb) h1).mono ?_);rintro e W' rC;exact⟨_,rC.1,rC.2.2,_,rfl,rC.2.1,hb.size⟩
  ·obtain⟨x,g10,h2,h3⟩:=hG 10 (by kernel_rfl);have g8:vs 8=_:=hG 8 (by kernel_rfl);exact q9 (w':=W) (by unfold snA execOp;simp only[s18,g8,s20,g10];go_simp) ⟨Below.refl _ _,x,rfl,h2,h3⟩
  ·obtain⟨x,g11,h2,h3⟩:=hG 11 (by kernel_rfl);have hb1:=(Below.refl _ W).alloc (Nat.le_refl _) (.cells (snA a b (some ⟨x,0,none⟩) l.length) 145);exact q9 (v:=.slice (some ⟨W.heap.size,0,none⟩) 1 1) (w':=W.alloc (.cells (snA a b (some ⟨x,0,none⟩) l.length) 145)) (by unfold snA at g11 ⊢;unfold execOp;simp only[s21,g11];go_simp) ⟨hb1,_,x,rfl,qf.new _ _ _,h2.below hb1,h3⟩
 ·intro vs W hb hG;have g0:vs 0=_:=hG 0 (by decide);have g7:vs 7=_:=hG 7 (by decide);obtain⟨y,x,g12,hy,tq,hxS⟩:=hG 12 (by decide);have kT:=QH hb;have HCE:Hid (∀b,A1=some b→∀j u,(qY xs)[j]?=some u→W.cell? (b.add j)=some u):=fun q hq j u hu=>by
   obtain⟨b',o',e,h2,h3⟩:=qyt.out j u hu;obtain rfl:q=⟨b',o',none⟩:=Option.some.inj (hq.symm.trans e);rw[addr_add];exact(hb.cell (p:=⟨b',o'+j,none⟩) h2).trans h3
  have aN:Hid (∀j u,(snA a b (some ⟨x,0,none⟩) l.length).toList[j]?=some u→W.cell? ((⟨y,0,none⟩:Addr).add j)=some u):=fun j u hu=>by
   rw[addr_add,Nat.zero_add,hy.cell j];simpa using hu
  have HXK:=QH tq;have HXS:=QH hxS;have hA:A1=none→n=0:=fun e=>by have:=ck.out.2 e;omega
  have HA:=QH hA;simp only[qW,qK,if_true];rw[g0,g7,g12];generalize vs 1=z1;generalize vs 2=z2;generalize vs 3=z3;generalize vs 4=z4;generalize vs 5=z5;generalize vs 6=z6;generalize vs 8=z8;generalize vs 9=z9;generalize vs 10=z10;generalize vs 11=z11;clear hG g0 g7 g12 hb hy tq hxS hA;simp only[Act.put,List.setIfInBounds_toArray,List.set_cons_succ,List.set_cons_zero];refine qI (i:=13) (by kernel_rfl) rfl rfl ?_;refine uE (.tmp 17) (.tmp 22) 91 rfl 145 i0 _ 4 48 underlying91 hi hz0 hz1 hz2 A1 n (qY xs) rfl HLEN.out HA.out HCE.out ⟨y,0,none⟩ 1 1 (snA a b (some ⟨x,0,none⟩) l.length).toList rfl (by rfl) aN.out (by decide) (by unfold maxLen;omega) (by omega) ?_;intro cap cur w1 hb1 zJ ht1 hc1 hc2 hsz;have hgW:=HK.out.below kT.out;have qpZ:=hgW.below hb1;have hWs:=kT.out.size;have hne:W.heap.size≠g:=by omega
  have yC:ib.qx (fun j=>j=g) w (w1.setCell ⟨g,1,none⟩ (.slice (some ⟨W.heap.size,0,none⟩) (n+1) cap)) :=
   ((ib.qx.of_below (S:=fun j=>j=g) kT.out).trans (S':=fun _=>False) (ib.qx.of_below hb1) (fun _ h=>h.elim)).setCell _ _ (.inl rfl)
  have hst:uD (fun j=>G j∧j≠g) w (w1.setCell ⟨g,1,none⟩ (.slice (some ⟨W.heap.size,0,none⟩) (n+1) cap)):=uD.nv yC (fun j hj=>hj.2);have hk2:qf (w1.setCell ⟨g,1,none⟩ (.slice (some ⟨W.heap.size,0,none⟩) (n+1) cap)) W.heap.size 145 cur:=zJ.of_block (qz _ _ _ _ _ hne);have hGW:G W.heap.size:=HG.out _ (by have:=HB.out.size;omega);have hxg:x≠g:=by have:=HXS.out;omega
  have hsx:dQ (fun j=>G j∧j≠g) (w1.setCell ⟨g,1,none⟩ (.slice (some ⟨W.heap.size,0,none⟩) (n+1) cap)) (some ⟨x,0,none⟩) l l.length:=by
   refine⟨⟨qf.nums ((HXK.out.below hb1).of_block (qz _ _ _ _ _ hxg)) HL.out.ints.mem,Nat.le_refl _,fun h=>by cases h⟩,fun _ b o s e=>?_⟩;simp only[Option.some.injEq,Addr.mk.injEq]at e;rw[← e.1];exact⟨HG.out _ (by have:=HXS.out;have:=HB.out.size;omega),hxg⟩
  have hsn:=fJ.qfs (G:=fun j=>G j∧j≠g) (xs:=xs++[(⟨(a,b),l,false⟩,.slice (some ⟨x,0,none⟩) l.length l.length)]) ⟨hGW,hne⟩ hk2.lt (jb hk2 (n:=(n+1)*4) (by rw[ht1,cP,qhC];rfl)) (fun y hy=>by
   rcases List.mem_append.1 hy with h|h
   ·exact(HX.out y h).stay hst
   ·obtain rfl:y=_:=by simpa using h
    exact⟨_,_,rfl,hsx,HGD.out⟩)
  rw[List.map_append,HM.out]at hsn;have ht3:=HT.out.stay hst;have hkk:=qpZ.qo 1 (.slice (some ⟨W.heap.size,0,none⟩) (n+1) cap);have HN2:Hid (Nx G (w1.setCell ⟨g,1,none⟩ (.slice (some ⟨W.heap.size,0,none⟩) (n+1) cap)) g { m with qa:=m.qa++[⟨(a,b),l,false⟩] }) :=
   ⟨A0,some ⟨W.heap.size,0,none⟩,A2,c0,cap,c2,by simpa[zj,HN.out]using hkk,kA.mk (m:={ m with qa:=m.qa++[⟨(a,b),l,false⟩] }) ht3.live hsn ⟨by rw[List.length_append,HN.out];exact hc1,fun e=>by cases e⟩ ht3.ql ht3.base ht3.target ht3.next ht3.all⟩
  have HBU:=QH yC;have f1:w1.frozen? ⟨g,1,none⟩=false:=qpZ.frozen 1;obtain⟨z,hz⟩:∃z,w1.cell? ⟨g,1,none⟩=some z:=⟨_,qpZ.cell 1⟩;clear hb1 zJ ht1 hc1 hc2 hsz hgW qpZ hWs yC hst hk2 hGW hsx hsn ht3 hkk HCE aN qyt;go_simp;refine qI (i:=14) (by kernel_rfl) rfl rfl ?_;go_simp;refine qI (i:=15) (by kernel_rfl) rfl rfl ?_;go_simp;refine qI (i:=16) (by kernel_rfl) rfl rfl ?_;go_simp;refine⟨by kernel_rfl,?_⟩;go_wp2_with fail
  go_end0
  exact⟨rfl,HN2.out,HBU.out⟩
theorem qcH{G:Nat→Prop}{w:World}{gd:Gd}{A:Option Addr}{c:Nat}{l:List Int}(hl:yE w A l c)(h1:l.length≤1000)(hgd:x9 gd)(hG:∀j,w.heap.size≤j→G j) :
    Calls prog 66 #[gv gd,.slice A l.length c] w (MkP G (fun m m'=>m.qa.length≤100∧m'={ m with qa:=m.qa++[⟨gd,l,false⟩] }) w):=by
 obtain⟨a,b⟩:=gd;have hb1:=(Below.refl w.heap.size w).alloc (Nat.le_refl _) (.cells #[.int .u64 (a:Int),.int .u64 (b:Int)] 55);have zJ:=qf.new w 55 #[.int .u64 (a:Int),.int .u64 (b:Int)];obtain⟨W1,hW1⟩:=QE (w.alloc (.cells #[.int .u64 (a:Int),.int .u64 (b:Int)] 55));rw[hW1]at hb1 zJ;have hb2:=(Below.refl W1.heap.size W1).alloc (Nat.le_refl _) (.cells #[.slice A l.length c] 57);have cz:=QH (zJ.below hb2);have jR:=QH (qf.new W1 57 #[.slice A l.length c]);have HB:=QH (qc hb1 hb2);have HL:=QH hl;have HG:=QH hG;have HGD:=QH hgd;clear hl hG hgd hb1 zJ hb2;show Calls _ _ #[.agg #[.int .u64 (a:Int),.int .u64 (b:Int)],.slice A l.length c] _ _;go_enter func66,ntmps66;go_wp2_with fail;try rw[hW1]
 go_ret;refine⟨_,rfl,fun m m' hR=>?_,HB.out⟩;obtain⟨aY,rfl⟩:=hR;exact⟨_,_,rfl,fun a W=>by go_simp,fun W g hb hg hN=>qiG hb hg hN cz.out jR.out (HL.out.below HB.out) h1 HGD.out aY (fun j hj=>HG.out j (Nat.le_trans HB.out.size hj))⟩
end Go.Proofs.YtdagdllomphidaaGreatDoor.vt.pg
namespace Go.Proofs.YtdagdllomphidaaGreatDoor.vt.pg
open _root_.Go.Proofs.Tryz Go Go.RowKit ib mt mt.pg
theorem oN (a b:Gd)(w:World):Calls prog 113 #[gv a,gv b] w (dh (above a b) w):=by
 have HR:Hid (decide (0<(if jg a.1 b.1≠0 then jg a.1 b.1 else jg a.2 b.2))=above a b):=(su a b).symm;obtain⟨r,hr⟩:=QE (above a b);rw[hr]at HR ⊢;clear hr;obtain⟨a1,a2⟩:=a;obtain⟨b1,b2⟩:=b;dsimp only at HR;show Calls prog 113 #[.agg #[.int .u64 (a1:Int),.int .u64 (a2:Int)],.agg #[.int .u64 (b1:Int),.int .u64 (b2:Int)]] w _;have HC1:Hid (∀W,Calls prog 152 #[.int .u64 (a1:Int),.int .u64 (b1:Int)] W (same (.int .i64 (jg a1 b1)) W)):=fun W=>mM a1 b1 W;have HC2:Hid (∀W,Calls prog 152 #[.int .u64 (a2:Int),.int .u64 (b2:Int)] W (same (.int .i64 (jg a2 b2)) W)):=fun W=>mM a2 b2 W;have hz:∀z∈[jg a1 b1,jg a2 b2],qC z:=by
  intro z hz;simp only[List.mem_cons,List.not_mem_nil,or_false]at hz;rcases hz with rfl|rfl
  ·exact cS _ _
  ·exact cS _ _
 generalize jg a1 b1=x at *;generalize jg a2 b2=y at *;have HC3:Hid (∀W B,qJ W (some ⟨B,0,none⟩) [x,y]→Calls prog 151 #[.slice (some ⟨B,0,none⟩) 2 2] W (same (.int .i64 (if x≠0 then x else y)) W)):=fun W B h=>qlf ⟨B,0,none⟩ 2 x y W h;generalize (if x≠0 then x else y)=z at *;have hb1:=(Below.refl w.heap.size w).alloc (Nat.le_refl _) (.cells #[.int .u64 (a1:Int),.int .u64 (a2:Int)] 55);have ha1:=qf.new w 55 #[.int .u64 (a1:Int),.int .u64 (a2:Int)];obtain⟨W1,hW1⟩:=QE (w.alloc (.cells #[.int .u64 (a1:Int),.int .u64 (a2:Int)] 55));rw[hW1]at hb1 ha1;have hbb:=(Below.refl _ W1).alloc (Nat.le_refl _) (.cells #[.int .u64 (b1:Int),.int .u64 (b2:Int)] 55);have HB:=QH (qc hb1 hbb);have yl:=QH (ha1.below hbb);have xp:=QH (qf.new W1 55 #[.int .u64 (b1:Int),.int .u64 (b2:Int)]);obtain⟨w0,hw0⟩:=QE (W1.alloc (.cells #[.int .u64 (b1:Int),.int .u64 (b2:Int)] 55));rw[hw0]at HB yl xp;obtain⟨g0,hg0⟩:=QE w.heap.size;obtain⟨g1,hg1⟩:=QE W1.heap.size;clear hb1 ha1 hbb;have HZ:=QH hz;clear hz;go_enter func113,ntmps113;go_wp2_with fail;try rw[hw0]
 try rw[hg0]
 try rw[hg1]
 rw[hg0]at yl;rw[hg1]at xp;clear hw0 hW1;have hz:=HZ.out;refine yX (by kernel_rfl) [5,6,7,8,9,10,11,12,13,14,15,16,17,4] (by kernel_rfl) (fun L vs W=>Below w0.heap.size w0 W∧∀i,L i=true→i<14→gq g0 g1 a1 a2 b1 b2 x y z i (vs i) W) ⟨(Below.refl _ _).drew,fun i hi=>by cases hi⟩ ?_ ?_ ?_
 ·intro i o L vs ρ W ho ny qF hρ hgd hI;obtain⟨hb,aT⟩:=hI;have hG:∀j,L j=true→gq g0 g1 a1 a2 b1 b2 x y z j (vs j) W:=fun j hj=>by
   by_cases h51:j<14
   ·exact aT j hj h51
   ·match j,h51 with
    | j+14,_=>exact trivial
  have qtv:i<14:=(Array.getElem?_eq_some_iff.1 ho).1;have hc:=hρ.const;have hfn:=hρ.fn;have next:∀v W',Below W.heap.size W W'→gq g0 g1 a1 a2 b1 b2 x y z i v W'→Below w0.heap.size w0 W'∧∀j,zm L i j=true→j<14→gq g0 g1 a1 a2 b1 b2 x y z j (xn vs i v j) W':=fun v W' h1 h2=>by
   refine⟨qc hb h1,fun j hj h51=>?_⟩;by_cases gj:j=i
   ·subst gj;simpa[xn]using h2
   ·simp only[zm,if_neg gj]at hj;simpa[xn,gj]using qbU g0 g1 a1 a2 b1 b2 x y z j _ W W' h51 (aT j hj h51) h1
  have hA:=yl.out.below hb;have hB:=xp.out.below hb;have hlt:=hA.lt;have q3v:=hB.lt;have c0:=hA.cell 0;have c1:=hA.cell 1;have d0:=hB.cell 0;have d1:=hB.cell 1;simp only[QA,QB,QC]at c0 c1 d0 d1;rcases i with _|_|_|_|_|_|_|_|_|_|_|_|_|_|i;all_goals (first|omega|skip)
  all_goals simp only[QA,QB,QC,Option.some.injEq]at ho
  all_goals subst ho
  ·have o2:ρ (.tmp 2)=.pointer (some ⟨g0,0,none⟩):=hρ.out 2 rfl;exact q9 (w':=W) (by unfold execOp;simp only[o2,hc];go_simp) (next _ _ (Below.refl _ _) rfl)
  ·have g5:gq g0 g1 a1 a2 b1 b2 x y z 0 (vs 0) W:=hG 0 (qF 0 (by kernel_rfl));have s5:ρ (.tmp 5)=.pointer (some ⟨g0,0,none⟩):=(hρ.at_ 5 0 rfl).trans g5;exact q9 (w':=W) (by unfold execOp;simp only[s5,hc];go_simp) (next _ _ (Below.refl _ _) rfl)
  ·have o3:ρ (.tmp 3)=.pointer (some ⟨g1,0,none⟩):=hρ.out 3 rfl;exact q9 (w':=W) (by unfold execOp;simp only[o3,hc];go_simp) (next _ _ (Below.refl _ _) rfl)
  ·have g7:gq g0 g1 a1 a2 b1 b2 x y z 2 (vs 2) W:=hG 2 (qF 2 (by kernel_rfl));have s7:ρ (.tmp 7)=.pointer (some ⟨g1,0,none⟩):=(hρ.at_ 7 2 rfl).trans g7;exact q9 (w':=W) (by unfold execOp;simp only[s7,hc];go_simp) (next _ _ (Below.refl _ _) rfl)
  ·have g6:gq g0 g1 a1 a2 b1 b2 x y z 1 (vs 1) W:=hG 1 (qF 1 (by kernel_rfl));have s6:ρ (.tmp 6)=.int .u64 (a1:Int):=(hρ.at_ 6 1 rfl).trans g6;have g8:gq g0 g1 a1 a2 b1 b2 x y z 3 (vs 3) W:=hG 3 (qF 3 (by kernel_rfl));have s8:ρ (.tmp 8)=.int .u64 (b1:Int):=(hρ.at_ 8 3 rfl).trans g8;refine qi (f:=152) (args:=#[.int .u64 (a1:Int),.int .u64 (b1:Int)]) (w':=W) (by unfold execOp;simp only[hfn,s6,s8];go_simp) ((HC1.out W).mono ?_);rintro x W' ⟨rfl,rfl⟩;exact⟨_,rfl,next _ _ (Below.refl _ _) rfl⟩
  ·have o2:ρ (.tmp 2)=.pointer (some ⟨g0,0,none⟩):=hρ.out 2 rfl;exact q9 (w':=W) (by unfold execOp;simp only[o2,hc];go_simp) (next _ _ (Below.refl _ _) rfl)
  ·have g10:gq g0 g1 a1 a2 b1 b2 x y z 5 (vs 5) W:=hG 5 (qF 5 (by kernel_rfl));have s10:ρ (.tmp 10)=.pointer (some ⟨g0,1,none⟩):=(hρ.at_ 10 5 rfl).trans g10;exact q9 (w':=W) (by unfold execOp;simp only[s10,hc];go_simp) (next _ _ (Below.refl _ _) rfl)
  ·have o3:ρ (.tmp 3)=.pointer (some ⟨g1,0,none⟩):=hρ.out 3 rfl;exact q9 (w':=W) (by unfold execOp;simp only[o3,hc];go_simp) (next _ _ (Below.refl _ _) rfl)
  ·have g12:gq g0 g1 a1 a2 b1 b2 x y z 7 (vs 7) W:=hG 7 (qF 7 (by kernel_rfl));have s12:ρ (.tmp 12)=.pointer (some ⟨g1,1,none⟩):=(hρ.at_ 12 7 rfl).trans g12;exact q9 (w':=W) (by unfold execOp;simp only[s12,hc];go_simp) (next _ _ (Below.refl _ _) rfl)
  ·have g11:gq g0 g1 a1 a2 b1 b2 x y z 6 (vs 6) W:=hG 6 (qF 6 (by kernel_rfl));have sx:ρ (.tmp 11)=.int .u64 (a2:Int):=(hρ.at_ 11 6 rfl).trans g11;have g13:gq g0 g1 a1 a2 b1 b2 x y z 8 (vs 8) W:=hG 8 (qF 8 (by kernel_rfl));have s13:ρ (.tmp 13)=.int .u64 (b2:Int):=(hρ.at_ 13 8 rfl).trans g13;refine qi (f:=152) (args:=#[.int .u64 (a2:Int),.int .u64 (b2:Int)]) (w':=W) (by unfold execOp;simp only[hfn,sx,s13];go_simp) ((HC2.out W).mono ?_);rintro x W' ⟨rfl,rfl⟩;exact⟨_,rfl,next _ _ (Below.refl _ _) rfl⟩
  ·have g9:gq g0 g1 a1 a2 b1 b2 x y z 4 (vs 4) W:=hG 4 (qF 4 (by kernel_rfl));have s9:ρ (.tmp 9)=.int .i64 (x):=(hρ.at_ 9 4 rfl).trans g9;have g14:gq g0 g1 a1 a2 b1 b2 x y z 9 (vs 9) W:=hG 9 (qF 9 (by kernel_rfl));have s14:ρ (.tmp 14)=.int .i64 (y):=(hρ.at_ 14 9 rfl).trans g14;exact q9 (v:=.slice (some ⟨W.heap.size,0,none⟩) 2 2) (w':=W.alloc (.cells (qh [x,y]) 3)) (by unfold execOp;simp only[s9,s14,qh];go_simp) (next _ _ ((Below.refl _ W).alloc (Nat.le_refl _) _) ⟨W.heap.size,rfl,df W _ hz⟩)
  ·obtain⟨B15,g15,qln⟩:gq g0 g1 a1 a2 b1 b2 x y z 10 (vs 10) W:=hG 10 (qF 10 (by kernel_rfl));have s15:ρ (.tmp 15)=.slice (some ⟨B15,0,none⟩) 2 2:=(hρ.at_ 15 10 rfl).trans g15;refine qi (f:=151) (args:=#[.slice (some ⟨B15,0,none⟩) 2 2]) (w':=W) (by unfold execOp;simp only[hfn,s15];go_simp) ((HC3.out W B15 qln).mono ?_);rintro x W' ⟨rfl,rfl⟩;exact⟨_,rfl,next _ _ (Below.refl _ _) rfl⟩
  ·have g16:gq g0 g1 a1 a2 b1 b2 x y z 11 (vs 11) W:=hG 11 (qF 11 (by kernel_rfl));have s16:ρ (.tmp 16)=.int .i64 z:=(hρ.at_ 16 11 rfl).trans g16;exact q9 (w':=W) (by unfold execOp;simp only[s16,hc];go_simp) (next _ _ (Below.refl _ _) rfl)
  ·have g17:gq g0 g1 a1 a2 b1 b2 x y z 12 (vs 12) W:=hG 12 (qF 12 (by kernel_rfl));have s17:ρ (.tmp 17)=.bool (decide (0<z)):=(hρ.at_ 17 12 rfl).trans g17;exact q9 (w':=W) (by unfold execOp;simp only[s17,hc];go_simp) (next _ _ (Below.refl _ _) rfl)
 ·intro i o L vs W j want ho ny qF hg hv hI;obtain⟨hb,aT⟩:=hI;have hG:∀j,L j=true→gq g0 g1 a1 a2 b1 b2 x y z j (vs j) W:=fun j hj=>by
   by_cases h51:j<14
   ·exact aT j hj h51
   ·match j,h51 with
    | j+14,_=>exact trivial
  have qtv:i<14:=(Array.getElem?_eq_some_iff.1 ho).1;rcases i with _|_|_|_|_|_|_|_|_|_|_|_|_|_|i;all_goals (first|omega|skip)
  all_goals simp only[QA,QB,QC,Option.some.injEq]at ho
  all_goals subst ho
  all_goals simp only[reduceCtorEq,Option.some.injEq,Prod.mk.injEq]at hg
 ·intro vs W hI;have g7:vs 13=.bool (decide (0<z)):=hI.2 13 (by decide) (by decide);have hbW:=QH (qc HB.out hI.1);clear hI;go_wp2_with fail;refine aS 13 rfl (by decide +kernel) (by kernel_rfl) rfl g7 ⟨by rw[HR.out],hbW.out⟩
end Go.Proofs.YtdagdllomphidaaGreatDoor.vt.pg
namespace Go.Proofs.YtdagdllomphidaaGreatDoor.vt.pg
open _root_.Go.Proofs.Tryz Go Go.RowKit ib mt im sp
def qiI (G:Nat→Prop)(l:List Int)(w:World)(e:Ending)(w':World):Prop:=∃A c,e=.returned (.slice A l.length c)∧dQ G w' A l c∧Below w.heap.size w w'
def kB (m:Mt)(n:Nat):List Int:=xM { m with qa:=m.qa.take n }
theorem oO (m:Mt):kB m 0=List.replicate m.live.length 0:=rfl
theorem tr {m:Mt}{k:Nat}(h:k<m.qa.length):kB m (k+1)=m.qa[k].ql:=by
 unfold kB xM;dsimp only;rw[List.take_succ_eq_append_getElem h,List.getLast?_concat]
theorem qiJ(m:Mt):kB m m.qa.length=xM m:=by unfold kB;rw[List.take_length]
theorem iJ {m:Mt}(h:m.qa.length=0):qB m=(0,0):=by
 unfold qB;rw[List.length_eq_zero_iff.1 h];rfl
theorem qiK{m:Mt}{k:Nat}(h:k<m.qa.length)(h1:k+1=m.qa.length):qB m=m.qa[k].g:=by
 unfold qB;rw[List.getLast?_eq_getElem?,show m.qa.length-1=k by omega,List.getElem?_eq_getElem h]
theorem xP (w:World)(X:Array Value):∃W,w.alloc (.cells X 98)=W∧qf W w.heap.size 98 X∧Below w.heap.size w W :=
 ⟨_,rfl,qf.new _ _ _,(Below.refl _ _).alloc (Nat.le_refl _) _⟩
theorem tu {w:World}{A0 A1 A2:Option Addr}{c0 c1 c2:Nat}{m:Mt}(hS:jF w A1 m.qa)(aY:m.qa.length≤1000) :
    Calls prog 112 #[.agg (zj A0 A1 A2 c0 c1 c2 m)] w fun e w'=>e=.returned (gv (qB m))∧Below w.heap.size w w':=by
 obtain⟨W1,hW1,zJ,hb1⟩:=xP w (zj A0 A1 A2 c0 c1 c2 m);have hb2:=(Below.refl _ W1).alloc (Nat.le_refl _) (.cells #[.int .u64 0,.int .u64 0] 55);have hr2:=qf.new W1 55 #[.int .u64 0,.int .u64 0];obtain⟨W2,hW2⟩:=QE (W1.alloc (.cells #[.int .u64 0,.int .u64 0] 55));rw[hW2]at hb2 hr2;have qy:=QH (qc hb1 hb2);have hk2:=zJ.below hb2;have jA:=QH hr2;have HLE:Hid (w.heap.size<W1.heap.size):=zJ.lt;have q1:=hk2.cell 1;have lO:=hk2.lt;simp only[zj,QA,QB,QC]at q1;have HS:=QH (hS.below qy.out);have r0:=hr2.cell 0;have r1:=hr2.cell 1;have f0:=hr2.frozen 0;have f1:=hr2.frozen 1;have hrl:=hr2.lt;simp only[QA,QB,QC]at r0 r1;have xq:Hid (∀(a b:Nat) W,qf W W1.heap.size 55 #[.int .u64 (a:Int),.int .u64 (b:Int)]→(loadVar 55 ⟨W1.heap.size,0,none⟩).run prog W=.ok (.agg #[.int .u64 (a:Int),.int .u64 (b:Int)]) W):=fun a b W hW =>
  run_loadVar_row W W1.heap.size 55 55 _ (0,0) _ hW underlying55 rfl (by kernel_rfl)
 have qqa:Hid (∀(a b:Nat),qf ((W2.setCell ⟨W1.heap.size,0,none⟩ (.int .u64 (a:Int))).setCell ⟨W1.heap.size,1,none⟩ (.int .u64 (b:Int))) W1.heap.size 55 #[.int .u64 (a:Int),.int .u64 (b:Int)]∧Below w.heap.size w ((W2.setCell ⟨W1.heap.size,0,none⟩ (.int .u64 (a:Int))).setCell ⟨W1.heap.size,1,none⟩ (.int .u64 (b:Int)))):=fun a b =>
  ⟨by have:=(hr2.qo 0 (.int .u64 (a:Int))).qo 1 (.int .u64 (b:Int));simpa using this,(qy.out.setCell (p:=⟨W1.heap.size,0,none⟩) (by have:=HLE.out;show w.heap.size≤W1.heap.size;omega) _).setCell (p:=⟨W1.heap.size,1,none⟩) (by have:=HLE.out;show w.heap.size≤W1.heap.size;omega) _⟩
 clear hS zJ hb1 hb2 hr2 hk2;by_cases h0:m.qa.length=0
 ·have HG:=QH (iJ h0);have hz:((m.qa.length:Int) == 0)=true:=by rw[h0];rfl
  clear h0;unfold zj at hW1 ⊢;go_enter func112,ntmps112;go_upto_region 1 with fail;try rw[hW1]
  try rw[hW2]
  clear hW1 hW2;go_wp2_with fail;refine bodyPost_ret (v:=.agg #[.int .u64 0,.int .u64 0]) (im.zq rfl _ _ _ ⟨W1.heap.size,0,none⟩ _ rfl (xq.out 0 0 _ (qqa.out 0 0).1)) rfl ⟨by rw[HG.out];rfl,(qqa.out 0 0).2⟩
 ·obtain⟨k,hk⟩:∃k,m.qa.length=k+1:=⟨m.qa.length-1,by omega⟩;have hkl:k<m.qa.length:=by omega
  have HG:=QH (qiK hkl hk.symm);obtain⟨b,o,B,c,rfl,s2,s3,s4,_⟩:=HS.out k hkl;generalize m.qa[k].g=gg at *;obtain⟨ga,gb⟩:=gg;dsimp only at s3 s4;have hw:IntKind.i64.wrap ((m.qa.length:Int)-1)=(k:Int):=by rw[IntWalk.i64_in _ (by omega)];omega
  have jD:(k:Int)<(m.qa.length:Int):=by omega
  have hk0:¬ (k:Int)<0:=by omega
  have hnz:((m.qa.length:Int) == 0)=false:=beq_false_of_ne (by omega);unfold zj at hW1 ⊢;clear hk h0;go_enter func112,ntmps112;go_upto_region 1 with fail;try rw[hW1]
  try rw[hW2]
  clear hW1 hW2;go_wp2_with fail;refine bodyPost_ret (v:=.agg #[.int .u64 (ga:Int),.int .u64 (gb:Int)]) (im.zq rfl _ _ _ ⟨W1.heap.size,0,none⟩ _ rfl (xq.out ga gb _ (qqa.out ga gb).1)) rfl ⟨by rw[HG.out];rfl,(qqa.out ga gb).2⟩
theorem oP {w:World}{A0 A1 A2:Option Addr}{c0 c1 c2:Nat}(m:Mt):Calls prog 59 #[.agg (zj A0 A1 A2 c0 c1 c2 m)] w (dh (decide (m.tok.target=(0,0))) w):=by
 obtain⟨W1,hW1,zJ,hb1⟩:=xP w (zj A0 A1 A2 c0 c1 c2 m);have q4:=zJ.cell 4;have q5:=zJ.cell 5;have lO:=zJ.lt;simp only[zj,QA,QB,QC]at q4 q5;have qP:=QH hb1;have HD:Hid (decide (m.tok.target=(0,0))=(((m.tok.target.1:Int) == 0)&&((m.tok.target.2:Int) == 0))):=by
  unfold Hid;have:(m.tok.target=(0,0))↔((m.tok.target.1:Int)=0∧(m.tok.target.2:Int)=0):=by
   constructor
   ·intro h;rw[h];exact⟨rfl,rfl⟩
   ·intro h;exact Prod.ext (by have:=h.1;omega) (by have:=h.2;omega)
  rw[Bool.eq_iff_iff];simp only[decide_eq_true_eq,Bool.and_eq_true,beq_iff_eq];exact this
 obtain⟨r,hr⟩:=QE (decide (m.tok.target=(0,0)));rw[hr]at HD ⊢;unfold zj at hW1 ⊢;generalize (m.tok.target.1:Int)=x at *;generalize (m.tok.target.2:Int)=y at *;obtain⟨p1,hp1⟩:=QE (x == 0);obtain⟨p2,hp2⟩:=QE (y == 0);rw[hp1,hp2]at HD;clear zJ hb1 hr;go_enter func59,ntmps59;go_upto_region 1 with fail;try rw[hW1]
 clear hW1;cases p1 <;> cases p2;all_goals
  go_wp2_with fail;go_ret;exact⟨by rw[HD.out];rfl,qP.out⟩
theorem oQ {G:Nat→Prop}{w:World}{A0 A1 A2:Option Addr}{c0 c1 c2:Nat}{m:Mt}(hS:fJ G w A1 m.qa)(hsz:mtS m)(hG:∀j,w.heap.size≤j→G j)(n:Nat)(hn:n≤m.qa.length) :
    Calls prog 79 #[.agg (zj A0 A1 A2 c0 c1 c2 m),.int .i64 (n:Int)] w (qiI G (kB m n) w):=by
 obtain⟨W1,hW1,zJ,hb1⟩:=xP w (zj A0 A1 A2 c0 c1 c2 m);have q0:=zJ.cell 0;have q1:=zJ.cell 1;have lO:=zJ.lt;simp only[zj,QA,QB,QC]at q0 q1;have qP:=QH hb1;have HS:=QH (hS.stay (uD.of_below hb1));have HG:=QH hG;have HL:=QH hsz.live;clear hS hG zJ hb1;rcases n with _|k
 ·rw[oO];have hb2:=(Below.refl _ W1).alloc (Nat.le_refl _) (.cells (qh (List.replicate m.live.length 0)) 3);have hs2:=qto W1 (List.replicate m.live.length 0) (fun z hz=>by rw[List.eq_of_mem_replicate hz];unfold qC;omega);have qy:=QH (qc qP.out hb2);have ur:Hid (dQ G (W1.alloc (.cells (qh (List.replicate m.live.length 0)) 3)) (some ⟨W1.heap.size,0,none⟩) (List.replicate m.live.length 0) (List.replicate m.live.length (0:Int)).length):=⟨hs2,fun _ b o s e=>by
   simp only[Option.some.injEq,Addr.mk.injEq]at e;rw[← e.1];exact HG.out _ qP.out.size⟩
  have HW:=QH hW1;clear hW1 hb2 hs2;unfold zj at HW ⊢;go_enter func79,ntmps79;go_upto_region 1 with fail;rw[HW.out];go_wp2_with (at_make;refine qg rfl (bQ _ _ m.live.length rfl rfl rfl (by have:=HL.out;omega)) ?_);go_ret;exact⟨_,_,by simp,ur.out,qy.out⟩
 ·have hkl:k<m.qa.length:=by omega
  rw[tr hkl];obtain⟨b,o,B,c,rfl,s2,_,_,s5,_,s7,_⟩:=HS.out.at_ k hkl;generalize m.qa[k].ql=im at *;have HS7:=QH s7;have hw:IntKind.i64.wrap (((k+1:Nat):Int)-1)=(k:Int):=by have:=hsz.qa;rw[IntWalk.i64_in _ (by omega)];omega
  have jD:(k:Int)<(m.qa.length:Int):=by omega
  have hk0:¬ (k:Int)<0:=by omega
  have hnz:(((k+1:Nat):Int) == 0)=false:=beq_false_of_ne (by omega);have HW:=QH hW1;clear hW1 s7 hsz;obtain⟨n1,hn1⟩:=QE ((k+1:Nat):Int);rw[hn1]at hw hnz ⊢;clear hn1;unfold zj at HW ⊢;go_enter func79,ntmps79;go_upto_region 1 with fail;rw[HW.out];go_wp2_with fail;go_ret;exact⟨_,_,rfl,HS7.out,qP.out⟩
end Go.Proofs.YtdagdllomphidaaGreatDoor.vt.pg
namespace Go.Proofs.YtdagdllomphidaaGreatDoor.ib
open _root_.Go.Proofs.Tryz Go Go.RowKit Go.ChangeShapes Go.WideShapes Go.Deep
def eN (w:World)(a:Option Addr)(uR:List (List Int)):Prop :=
 ∀i (h:i<uR.length),∃b o A c,a=some ⟨b,o,none⟩∧b<w.heap.size∧w.cell? ⟨b,o+i,none⟩=some (.slice A uR[i].length c)∧qJ w A uR[i]∧uR[i].length≤9223372036854775807
theorem eN.below{w w':World}{a:Option Addr}{uR:List (List Int)}(h:eN w a uR)(hb:Below w.heap.size w w'):eN w' a uR:=by
 intro i hi;obtain⟨b,o,A,c,h1,h2,h3,h4,h5⟩:=h i hi;exact⟨b,o,A,c,h1,Nat.lt_of_lt_of_le h2 hb.size,by rw[hb.cell (p:=⟨b,o+i,none⟩) h2];exact h3,h4.below hb,h5⟩
section
variable {H:Type} {enc:TypeId × Value→H} {w:World} {held:Bool} {a:Option Addr} {l c:Nat} {d:DataW H} {pl:List MemPlace}
end
end Go.Proofs.YtdagdllomphidaaGreatDoor.ib
namespace Go.Proofs.YtdagdllomphidaaGreatDoor
open _root_.Go.Proofs.Tryz Go Go.RowKit
theorem xh {P:Program}{ops:Array Oper}{rest:List Oper}{o:Oper}{a:Act}{w:World}{Q:Exit→Act→World→Prop}(hgd:o.guard=none)(s x:Operand)(t:TypeId)
    (ho:o.op=.call { callee:=.builtin .append,args:=#[s,x],argTypes:=#[t,t] })
    (base:Nat) (e:TypeId) (i:TypeInfo) (z:Value) (size bytes:Nat) (ht:P.underlying t=some (.slice e)) (hi:P.info? e=some i) (hz:i.zero=some z)
    (hsize:i.size=size) (hby:i.bytes=bytes) (hzs:z.cells.size=size) (hsz:0<size)
    (v:Value) (n:Nat) (xs:List Value) (hs:a.eval s=v) (hown:w.ownsRow base e size v n xs)
    (ad:Addr) (m c:Nat) (news:List Value) (hx:a.eval x=.slice (some ad) m c) (hl:news.length=m*size) (hnews:∀j u,news[j]?=some u→w.cell? (ad.add j)=some u) (h1:∀u∈news,u.oneCell'=true)
    (h63:n+m≤maxLen) (hbytes:(n+m)*bytes≤140737488355328) (hbase:base≤w.heap.size)
    (h:∀v' w',w'.ownsRow base e size v' (n+m) (xs++news)→w.grownBy w' v.ownBlock→(v'.ownBlock=v.ownBlock∨v'.ownBlock=some w.heap.size)→wpList P ops Q rest (a.put o.dst v') w'):wpList P ops Q (o::rest) a w:=by
 refine wpList_plain hgd fun K hK=>?_;obtain⟨v',w',hrun,h2,h3,_,h5⟩:=run_append_own_at (P:=P) w base t o.type e i z size bytes ht hi hz hsize hby hzs hsz v n xs hown ad m c news hl hnews h1 h63 hbytes hbase;unfold Oper.wp;simp[execOp,ho,resolve,invoke,builtin,hs,hx,hrun,Result.andThen];exact hK _ _ (h v' w' h2 h3 h5)
end Go.Proofs.YtdagdllomphidaaGreatDoor
namespace Go.Proofs.YtdagdllomphidaaGreatDoor.vt.pg
open _root_.Go.Proofs.Tryz Go Go.RowKit ib mt im sp
theorem qut:(prog.info? 57).map (fun i=>(i.zero,i.size,i.bytes))=some (some (.slice none 0 0),1,24):=by kernel_rfl
def qiL (w:World)(u:Value)(l:List Int):Prop:=∃B c,u=.slice B l.length c∧qJ w B l∧l.length≤1000
theorem qiL.below{w w':World}{u:Value}{l:List Int}(h:qiL w u l)(hb:Below w.heap.size w w'):qiL w' u l:=by
 obtain⟨B,c,h1,h2,h3⟩:=h;exact⟨B,c,h1,h2.below hb,h3⟩
def IvL (w:World)(vs:List Value)(ls:List (List Int)):Prop:=vs.length=ls.length∧∀i (h:i<vs.length) (h':i<ls.length),qiL w vs[i] ls[i]
theorem IvL.below{w w':World}{vs:List Value}{ls:List (List Int)}(h:IvL w vs ls)(hb:Below w.heap.size w w'):IvL w' vs ls:=⟨h.1,fun i h1 h2=>(h.2 i h1 h2).below hb⟩
theorem IvL.snoc{w:World}{vs:List Value}{ls:List (List Int)}{u:Value}{l:List Int}(h:IvL w vs ls)(hu:qiL w u l):IvL w (vs++[u]) (ls++[l]):=by
 refine⟨by simp[h.1],fun i h1 h2=>?_⟩;by_cases hi:i<vs.length
 ·rw[List.getElem_append_left hi,List.getElem_append_left (by have:=h.1;omega)];exact h.2 i hi _
 ·have e:i=vs.length:=by simp at h1;omega
  subst e;rw[List.getElem_append_right (Nat.le_refl _),List.getElem_append_right (by have:=h.1;omega)];simpa[h.1]using hu
theorem IvL.ims{w:World}{B:Nat}{v:Value}{vs:List Value}{ls:List (List Int)}(h:IvL w vs ls)(ho:w.ownsRow B 57 1 v ls.length vs):∃A c,v=.slice A ls.length c∧eN w A ls:=by
 rcases ho.2 with⟨rfl,h0⟩|⟨g,cap,cur,rfl,hg,hh,hcc,hm,hcs,xI⟩
 ·exact⟨none,0,by rw[h0],fun i hi=>absurd hi (by omega)⟩
 ·refine⟨some ⟨g,0,none⟩,cap,rfl,fun i hi=>?_⟩;obtain⟨B',c',e,h1,h2⟩:=h.2 i (by have:=h.1;omega) hi;refine⟨g,0,B',c',rfl,(Array.getElem?_eq_some_iff.1 hh).1,?_,h1,by omega⟩;rw[Nat.zero_add,cell_of_row w g i cur 57 (0,0) hh];have hiv:i<vs.length:=by have:=h.1;omega
  have hu:vs[i]?=some (.slice B' ls[i].length c'):=by rw[List.getElem?_eq_getElem hiv,e]
  rw[← xI,List.getElem?_take]at hu;split at hu
  ·rw[← hu];simp
  ·cases hu
def ImR (B:Nat)(m:Mt)(w:World)(v i:Value)(wr:World):Prop :=
 ∃(k:Nat) (vs:List Value),k≤m.qa.length∧i=.int .i64 (k:Int)∧wr.ownsRow B 57 1 v (k+2) vs∧IvL w vs (m.live::m.tok.ql::(m.qa.take k).map (·.ql))∧Below w.heap.size w wr∧B≤wr.heap.size
def qyv (ls:List (List Int))(w:World)(e:Ending)(w':World):Prop:=∃A c,e=.returned (.slice A ls.length c)∧eN w' A ls∧Below w.heap.size w w'
theorem qfz{w:World}{A0 A1 A2:Option Addr}{c0 c1 c2:Nat}{m:Mt}(ht:MtL w A0 A1 A2 c0 c1 c2 m)(hsz:mtS m) :
    Calls prog 103 #[.agg (zj A0 A1 A2 c0 c1 c2 m)] w (qyv (xc m) w):=by
 obtain⟨i0,hi,hz0,hz1,hz2⟩:=info_parts qut;obtain⟨W1,hW1,zJ,hb1⟩:=xP w (zj A0 A1 A2 c0 c1 c2 m);have hb2:=(Below.refl _ W1).alloc (Nat.le_refl _) (.cells #[.slice A0 m.live.length c0,.slice A2 m.tok.ql.length c2] 57);have hn2:=qf.new W1 57 #[.slice A0 m.live.length c0,.slice A2 m.tok.ql.length c2];obtain⟨W2,hW2⟩:=QE (W1.alloc (.cells #[.slice A0 m.live.length c0,.slice A2 m.tok.ql.length c2] 57));rw[hW2]at hb2 hn2;have hbb:=qc hb1 hb2;have vg:Hid (W2.ownsRow W1.heap.size 57 1 (.slice (some ⟨W1.heap.size,0,none⟩) 2 2) 2 [.slice A0 m.live.length c0,.slice A2 m.tok.ql.length c2]) :=
  ⟨rfl,.inr ⟨W1.heap.size,2,_,rfl,Nat.le_refl _,hn2,Nat.le_refl _,by unfold maxLen;omega,rfl,rfl⟩⟩
 have HI2:Hid (IvL w [.slice A0 m.live.length c0,.slice A2 m.tok.ql.length c2] [m.live,m.tok.ql]) :=
  (IvL.snoc (vs:=[.slice A0 m.live.length c0]) (ls:=[m.live]) ⟨rfl,fun i h1 h2=>by
   obtain rfl:i=0:=by simp at h1;exact h1
   exact⟨A0,c0,rfl,ht.live.ints,hsz.live⟩⟩ ⟨A2,c2,rfl,ht.ql.ints,hsz.ql⟩)
 have HS:=QH ht.qa;have qy:=QH hbb;have hk2:=zJ.below hb2;have HL1:Hid (W1.heap.size≤W2.heap.size):=hb2.size;have HLW:Hid (w.heap.size≤W1.heap.size):=hb1.size;have fX:=QH hsz;have q0:=zJ.cell 0;have q1:=hk2.cell 1;have q8:=zJ.cell 8;have lO:=zJ.lt;have zak:=hk2.lt;have aY:=hsz.qa;simp only[zj,QA,QB,QC]at q0 q1 q8;clear ht hsz zJ hb1 hb2 hn2 hbb hk2;have HIM:Hid (xc m=m.live::m.tok.ql::m.qa.map (·.ql)):=rfl;unfold zj at hW1 ⊢;go_enter func103,ntmps103;go_upto_region 1 with fail;try rw[hW1]
 clear hW1;go_upto_region 2 with fail;try rw[hW2]
 clear hW2 q0 q8 lO;go_wp2_with fail;go_loopw [3,15] (fun v i wr=>ImR W1.heap.size m w v i wr) (fun _ i _=>m.qa.length-(intOf i).toNat);case atStart=>exact⟨0,_,Nat.zero_le _,rfl,vg.out,HI2.out,qy.out,HL1.out⟩
 case round =>
  obtain⟨k,vs,hk,rfl,ho,hiv,hB,hLR⟩:=hrel;have HLR:=QH hLR;have HO:=QH ho;have HIV:=QH hiv;have HB:=QH hB;clear ho hiv hB;by_cases hlt:k<m.qa.length
  ·have jD:(k:Int)<(m.qa.length:Int):=by omega
   have hk0:¬ (k:Int)<0:=by omega
   obtain⟨b,o,B,c,hA,z1,z2,z3,z4,z5,s6,_⟩:=HS.out k hlt;have s1:=Nat.lt_of_lt_of_le z1 HB.out.size;have s2:=(HB.out.cell (p:=⟨b,o+k*4,none⟩) z1).trans z2;have s3:=(HB.out.cell (p:=⟨b,o+k*4+1,none⟩) z1).trans z3;have s4:=(HB.out.cell (p:=⟨b,o+k*4+2,none⟩) z1).trans z4;have s5:=(HB.out.cell (p:=⟨b,o+k*4+3,none⟩) z1).trans z5;clear z1 z2 z3 z4 z5;have fH:=QH s6;have mq:Hid ((m.qa.take (k+1)).map (·.ql)=(m.qa.take k).map (·.ql)++[m.qa[k].ql]):=by unfold Hid;rw[List.take_succ_eq_append_getElem hlt,List.map_append];rfl
   have HIL:Hid (m.qa[k].ql.length≤1000):=fX.out.uj _ (List.getElem_mem hlt);subst hA;obtain⟨im,vu⟩:=QE (m.qa[k].ql);obtain⟨gd,hgd⟩:=QE (m.qa[k].g);obtain⟨hd,hhd⟩:=QE (m.qa[k].hid);rw[vu]at fH mq HIL s4;rw[hgd]at s2 s3;rw[hhd]at s5;clear vu hgd hhd s6;have kj:=(Below.refl _ wr).alloc (Nat.le_refl _) (.cells #[.int .u64 (gd.1:Int),.int .u64 (gd.2:Int),.slice B im.length c,.bool hd] 145);obtain⟨W3,hW3⟩:=QE (wr.alloc (.cells #[.int .u64 (gd.1:Int),.int .u64 (gd.2:Int),.slice B im.length c,.bool hd] 145));have yt:=qf.new wr 145 #[.int .u64 (gd.1:Int),.int .u64 (gd.2:Int),.slice B im.length c,.bool hd];rw[hW3]at kj yt;have r2:=yt.cell 2;have hrl:=yt.lt;simp only[QA,QB,QC]at r2;have hby:=(Below.refl _ W3).alloc (Nat.le_refl _) (.cells #[.slice B im.length c] 57);have hbz:=qc kj hby;have HO4:Hid ((W3.alloc (.cells #[.slice B im.length c] 57)).ownsRow W1.heap.size 57 1 _ (k+2) vs):=zO HO.out (fun j hj=>hbz.block j (HO.out.lt j hj).2);have q4a:Hid (qiL w (.slice B im.length c) im):=⟨B,c,rfl,fH.out.ints,HIL.out⟩;have zN:=QH (qc HB.out hbz);have HL4:Hid (W1.heap.size≤(W3.alloc (.cells #[.slice B im.length c] 57)).heap.size):=by have h1:=HO.out.2;have:=hbz.size;have:=HLR.out;unfold Hid;omega
   have aN:Hid (∀j u,([.slice B im.length c]:List Value)[j]?=some u→(W3.alloc (.cells #[.slice B im.length c] 57)).cell? ((⟨W3.heap.size,0,none⟩:Addr).add j)=some u):=fun j u hu=>by
    rw[addr_add,Nat.zero_add,(qf.new W3 57 #[.slice B im.length c]).cell j];simpa using hu
   clear kj yt hby hbz;go_wp2_with (at_builtin;refine xh rfl (.tmp 19) (.tmp 22) 175 rfl W1.heap.size 57 i0 (.slice none 0 0) 1 24 underlying175 hi hz0 hz1 hz2 rfl (by decide) _ (k+2) vs rfl HO4.out ⟨W3.heap.size,0,none⟩ 1 1 [.slice B im.length c] rfl rfl aN.out (by intro u hu;simp at hu;subst hu;rfl) (by unfold maxLen;omega) (by omega) (by have:=zN.out.size;have:=HL4.out;omega) ?_);intro v' w1 hown hgrow _;have yZ:Hid (Below w.heap.size w w1):=zN.out.grown hgrow zN.out.size (fun j hj=>Nat.le_trans HLW.out (HO4.out.lt j hj).1);have HO5:Hid (w1.ownsRow W1.heap.size 57 1 v' (k+1+2) (vs++[.slice B im.length c])):=by
    have:=hown;rw[show k+2+1=k+1+2 by omega]at this;exact this
   have q4b:Hid (IvL w (vs++[.slice B im.length c]) (m.live::m.tok.ql::(m.qa.take (k+1)).map (·.ql))):=by
    rw[mq.out];exact HIV.out.snoc q4a.out
   have HL5:Hid (W1.heap.size≤w1.heap.size):=Nat.le_trans HL4.out hgrow.size;clear hown hgrow;go_wp2_with fail;go_roundw;case rel=>exact⟨k+1,_,by omega,by go_num,HO5.out,q4b.out,yZ.out,HL5.out⟩
   case measure=>simp[intOf];omega
  ·obtain rfl:k=m.qa.length:=by omega
   have jD:¬ (m.qa.length:Int)<(m.qa.length:Int):=by omega
   have hiv:=HIV.out;rw[List.take_length]at hiv;have vu:=(hiv.below HB.out).ims (B:=W1.heap.size) (by
    have:=HO.out;rw[show m.qa.length+2=(m.live::m.tok.ql::m.qa.map (·.ql)).length by simp]at this;exact this)
   obtain⟨A,c,hv,hx⟩:=vu;have HX:=QH hx;have HV:=QH hv;clear hiv hx hv;go_wp2_with fail;go_ret;exact⟨A,c,by rw[HV.out];rfl,HX.out,HB.out⟩
end Go.Proofs.YtdagdllomphidaaGreatDoor.vt.pg
namespace Go.Proofs.YtdagdllomphidaaGreatDoor
open _root_.Go.Proofs.Tryz Go.RowKit
def yO (w:World)(a:Option Addr)(ps:List (List UInt8)):Prop :=
 ∀i (h:i<ps.length),∃b o,a=some ⟨b,o,none⟩∧b<w.heap.size∧w.cell? ⟨b,o+i,none⟩=some (.string (str ps[i]))
def yo (ps:List (List UInt8)):List Value:=ps.map fun p=>Value.string (str p)
theorem oT (ps:List (List UInt8)):(yo ps).length=ps.length:=by simp[yo]
theorem eO (ps:List (List UInt8))(p:List UInt8):yo (ps++[p])=yo ps++[.string (str p)]:=by simp[yo]
theorem yO.below{w w':World}{a:Option Addr}{ps:List (List UInt8)}{B:Nat}(h:yO w a ps)(hb:Below B w w')(hB:w.heap.size≤B):yO w' a ps:=by
 intro i hi;obtain⟨b,o,rfl,hlt,hc⟩:=h i hi;exact⟨b,o,rfl,Nat.lt_of_lt_of_le hlt hb.size,by rw[hb.cell (p:=⟨b,o+i,none⟩) (Nat.lt_of_lt_of_le hlt hB)];exact hc⟩
theorem yO.nil(w:World)(a:Option Addr):yO w a []:=fun i h=>absurd h (by simp)
def zH (w:World)(B:Nat)(v:Value)(ps:List (List UInt8)):Prop:=w.ownsRow B 9 1 v ps.length (yo ps)
theorem zH.view{w:World}{B:Nat}{v:Value}{ps:List (List UInt8)}(h:zH w B v ps) :
    ∃a c,v=.slice a ps.length c∧ps.length≤c∧c≤maxLen∧yO w a ps∧(a=none→ps=[])∧(∀x,a=some x→∃g,x=⟨g,0,none⟩∧B≤g∧g<w.heap.size):=by
 rcases h.2 with⟨rfl,h0⟩|⟨g,cap,cur,rfl,hg,hh,hc,hm,_,_⟩
 ·obtain rfl:ps=[]:=List.length_eq_zero_iff.1 h0;exact⟨none,0,rfl,Nat.le_refl _,by decide,yO.nil _ _,fun _=>rfl,fun x hx=>(by cases hx)⟩
 ·have hlt:g<w.heap.size:=(Array.getElem?_eq_some_iff.1 hh).1;refine⟨some ⟨g,0,none⟩,cap,rfl,hc,hm,?_,fun h=>(by cases h),fun x hx=>⟨g,(by cases hx;rfl),hg,hlt⟩⟩;intro i hi;refine⟨g,0,rfl,hlt,?_⟩;have:=World.ownsRow.cellAt h i (by omega);rw[Nat.zero_add,this];simp[yo,hi]
theorem oU (ps:List (List UInt8))(w:World):yO (w.alloc (.cells (yo ps).toArray 9)) (some ⟨w.heap.size,0,none⟩) ps:=by
 intro i h;refine⟨w.heap.size,0,rfl,by simp,?_⟩;simp[World.cell?,World.alloc,-World.alloc_eq,yo,h]
theorem qaH{w:World}{B C:Nat}{v:Value}{ps:List (List UInt8)}(h:zH w B v ps)(hc:C≤B):zH w C v ps:=by
 refine⟨h.1,?_⟩;rcases h.2 with hn|⟨g,cap,cur,hv,hb,rest⟩
 ·exact .inl hn
 ·exact .inr ⟨g,cap,cur,hv,Nat.le_trans hc hb,rest⟩
theorem aG {w w':World}{B:Nat}{v:Value}{ps:List (List UInt8)}(h:zH w B v ps)(hb:Below w.heap.size w w'):zH w' B v ps:=by
 refine⟨h.1,?_⟩;rcases h.2 with hn|⟨g,cap,cur,hv,hB,hg,rest⟩
 ·exact .inl hn
 ·exact .inr ⟨g,cap,cur,hv,hB,by rw[hb.block g (Array.getElem?_eq_some_iff.1 hg).1];exact hg,rest⟩
theorem eP (ps:List (List UInt8))(k:Nat)(h:k<ps.length):(ps.take (k+1)).flatten=(ps.take k).flatten++ps[k]:=by
 rw[List.take_succ_eq_append_getElem h,List.flatten_append];simp only[List.flatten_cons,List.flatten_nil,List.append_nil]
theorem iK (ps:List (List UInt8))(k:Nat):(ps.take k).flatten.length≤ps.flatten.length:=by
 have h:ps.flatten=(ps.take k).flatten++(ps.drop k).flatten:=by rw[← List.flatten_append,List.take_append_drop]
 rw[h];simp
def qqc (ps:List (List UInt8))(w:World)(i:Value)(wr:World):Prop :=
 ∃k:Nat,k≤ps.length∧i=.int .i64 (k:Int)∧Lib.IsBuilder 230 5 w.heap.size w.heap.size (Lib.byteCells (ps.take k).flatten) wr∧Below w.heap.size w wr
theorem oV (a:Option Addr)(c:Nat)(ps:List (List UInt8))(w:World)(hc:yO w a ps)(hl:ps.length≤4611686018427387904)(hs:ps.flatten.length≤140737488355328) :
    Calls prog 136 #[.slice a ps.length c] w (qgz (str ps.flatten) w):=by
 have h0:Lib.IsBuilder 230 5 w.heap.size w.heap.size [] (w.alloc (.cells #[.pointer none,.slice none 0 0] 230)):=Lib.fresh_isBuilder 230 5 w;have b0:Below w.heap.size w (w.alloc (.cells #[.pointer none,.slice none 0 0] 230)):=(Below.refl _ w).alloc (Nat.le_refl _) _;have HC:=QH hc;clear hc;go_enter func136,ntmps136;go_wp2;go_loopw [8] (fun i wr=>qqc ps w i wr) (fun i _=>ps.length-(intOf i).toNat);case atStart=>exact⟨0,Nat.zero_le _,rfl,by simpa[Lib.byteCells]using h0,b0⟩
 case round =>
  clear h0 b0;obtain⟨k,hk,rfl,hI,hB⟩:=hrel;by_cases hlt:k<ps.length
  ·obtain⟨b,o,rfl,hb,nP⟩:=HC.out k hlt;have hcell:wr.cell? ⟨b,o+k,none⟩=some (.string (str ps[k])):=by
    rw[hB.cell (p:=⟨b,o+k,none⟩) hb];exact nP
   have gG:=eP ps k hlt;have hfm:=iK ps (k+1);have hbp:=za ps[k];have hsz:=qO ps[k];have hlen:(Lib.byteCells (ps.take k).flatten).length+(str ps[k]).size≤140737488355328:=by
    rw[Lib.byteCells_length,hsz];rw[gG,List.length_append]at hfm;omega
   have Hfl:=QH gG;have Hbp:=QH hbp;clear gG hfm hbp nP hsz;generalize str ps[k]=s at *;go_wp2_with (go_at_call 157;refine(Tryz.Builder_WriteString w.heap.size w.heap.size _ s _ hI hlen hB.size).mono ?_);rintro e W2 ⟨rfl,h2,b2⟩;have h2':Lib.IsBuilder 230 5 w.heap.size w.heap.size (Lib.byteCells (ps.take (k+1)).flatten) W2:=by
    rw[Lib.strCells_eq,← Lib.byteCells_append]at h2;rw[Hfl.out,← Hbp.out];exact Or.inr h2
   have b2':=hB.trans b2;clear h2 b2 hI hB;go_wp2;go_roundw;case rel=>exact⟨k+1,by omega,by go_num,h2',b2'⟩
   case measure=>simp[intOf];omega
  ·have uV:k=ps.length:=by omega
   subst uV;rw[List.take_length]at hI;go_wp2_with (go_at_call 159;refine(Tryz.Builder_String_any w.heap.size w.heap.size _ _ hI hB.size).mono ?_);rintro e W2 ⟨rfl,b2⟩;have b2':=hB.trans b2;clear b2 hI hB;go_wp2;go_ret;exact⟨rfl,b2'⟩
def qaI:Nat→Nat→List UInt8
 | 0,_=>[]
 | k+1,n=>qaI k (n/256)++[UInt8.ofNat (n%256)]
theorem qmx(n:Nat):qaI 2 n=mA n:=rfl
theorem qiM(n:Nat):qaI 4 n=be4 n:=by
 simp[qaI,be4,Nat.div_div_eq_div_mul]
def yh (D:List UInt8)(k:Nat):List Value:=List.replicate k (.int .u8 0)++Lib.byteCells (D.drop k)
def qqd (D:List UInt8)(w:World)(n i:Value)(wr:World):Prop :=
 ∃k m:Nat,i=.int .i64 ((k:Int)-1)∧n=.int .u32 (m:Int)∧m<4294967296∧qaI k m=D.take k∧k≤D.length ∧
  wr.ownsRow w.heap.size 5 1 (.slice (some ⟨w.heap.size,0,none⟩) D.length D.length) D.length (yh D k)∧Below w.heap.size w wr
theorem rQ (D:List UInt8)(k:Nat)(h:k<D.length):(yh D (k+1)).set k (.int .u8 (D[k].toNat:Int))=yh D k:=by
 unfold yh;rw[List.replicate_succ',List.append_assoc,List.set_append_right _ _ (by simp),List.length_replicate,Nat.sub_self,List.drop_eq_getElem_cons h];rfl
theorem qiN(D:List UInt8)(m k:Nat)(hk:k<D.length)(h:qaI (k+1) m=D.take (k+1)) :
    qaI k (m/256)=D.take k∧D[k].toNat=m%256:=by
 have e:qaI k (m/256)++[UInt8.ofNat (m%256)]=D.take (k+1):=h;rw[List.take_succ_eq_append_getElem hk]at e;have e':=List.append_inj' e rfl;refine⟨e'.1,?_⟩;have:=e'.2;simp at this;rw[← this,uU _ (by omega)]
theorem eQ (n:Nat)(D:List UInt8)(w:World)(hn:n<4294967296)(hl:D.length≤100)(hD:qaI D.length n=D) :
    Calls prog 170 #[.int .u32 (n:Int),.int .i64 (D.length:Int)] w (qgz (str D) w):=by
 obtain⟨i0,hi,hz0,hz1,hz2⟩:=info_parts Tryz.nj;have hmk:=run_make (P:=prog) w 118 5 i0 (.int .u8 0) underlying118 hi hz0 .i64 .i64 (D.length:Int) (D.length:Int) (by omega) (by omega) (by rw[hz2];omega) (by omega);have qkK:(w.alloc (.cells (madeCells #[.int .u8 0] D.length) 5)).ownsRow w.heap.size 5 1 (.slice (some ⟨w.heap.size,0,none⟩) D.length D.length) D.length (yh D D.length):=by
  have:=World.ownsRow_lit (e:=5) (size:=1) (base:=w.heap.size) w (madeCells #[.int .u8 0] D.length) D.length (Nat.le_refl _) (by unfold maxLen;omega) (by simp[size_madeCells]);have e:(madeCells #[.int .u8 0] D.length).toList=yh D D.length:=by
   apply List.ext_getElem?;intro j;by_cases hj:j<D.length <;> simp[madeCells,yh,Lib.byteCells,hj,Nat.mod_one]
  rw[← e];exact this
 have hb0:Below w.heap.size w (w.alloc (.cells (madeCells #[.int .u8 0] D.length) 5)):=(Below.refl _ _).alloc (Nat.le_refl _) _;have HD:=QH hD;clear hD;rw[hz1]at hmk;clear hi hz0 hz1 hz2;go_enter func170,ntmps170;go_wp2;go_loopw [0,6] (fun n' i wr=>qqd D w n' i wr) (fun _ i _=>(intOf i+1).toNat);case atStart=>exact⟨D.length,n,rfl,rfl,hn,by rw[HD.out];simp,Nat.le_refl _,qkK,hb0⟩
 case round =>
  obtain⟨k,m,rfl,rfl,hm,hd,hk,hown,hb⟩:=hrel;cases k with
  | zero =>
   have hcv:=run_convert_bytes_back (P:=prog) wr 118 9 5 ⟨w.heap.size,0,none⟩ D.length D underlying118 underlying5 underlying9 (by
    intro j hj;have:=hown.cellAt j (by omega);rw[addr_add,Nat.zero_add,this];simp[yh,Lib.byteCells,List.getElem?_eq_getElem hj])
   have qxf:(convert 118 9 (.slice (some ⟨w.heap.size,0,none⟩) D.length D.length)).run prog wr=.ok (.string (str D)) wr:=hcv;clear hcv;go_wp2;go_ret;exact⟨rfl,hb⟩
  | succ k =>
   have hx:=hown.cellAt k (by omega);rw[show(yh D (k+1))[k]?=some (.int .u8 0)from by simp[yh,List.getElem?_append]]at hx;have hf:=hown.frozenAt k;have hs:=hown.stored k (.int .u8 ((D[k]'(by omega)).toNat:Int));rw[rQ _ _ (by omega)]at hs;obtain⟨hs1,hs2⟩:=hs;obtain⟨hd',vI⟩:=qiN D m k (by omega) hd;have Hs1:=QH hs1;have Hs2:=QH hs2;have Hd:=QH hd';have Hl:=QH vI;clear hs1 hs2 hd' vI hd hown;go_wp2;have e:((m:Int)%256)=((D[k]'(by omega)).toNat:Int):=by rw[Hl.out];omega
   rw[e];exact⟨⟨k,m/256,rfl,rfl,by omega,Hd.out,by omega,Hs1.out,hb.grown Hs2.out (by have:=hb.size;omega) (fun j hj=>by cases hj;exact Nat.le_refl _)⟩,by simp[intOf]⟩
theorem qcI(n:Nat)(w:World)(hn:n<4294967296):Calls prog 170 #[.int .u32 (n:Int),.int .i64 2] w (qgz (str (mA n)) w) :=
 eQ n (mA n) w hn (by show 2≤100;decide) (qmx n)
theorem qaJ(n:Nat)(w:World)(hn:n<4294967296):Calls prog 170 #[.int .u32 (n:Int),.int .i64 4] w (qgz (str (be4 n)) w) :=
 eQ n (be4 n) w hn (by show 4≤100;decide) (qiM n)
def qha (r:Option (List UInt8))(w:World)(e:Ending)(w':World):Prop :=
 e=.returned (.tuple #[.string (str (r.getD [])),.bool r.isSome])∧Below w.heap.size w w'
theorem qaK(n:Nat)(h:n<9223372036854775808):IntKind.i64.wrap (n:Int)=(n:Int):=by
 have e:(n:Int)%2 ^ 64=n:=Int.emod_eq_of_lt (by omega) (by omega);simp only[IntKind.wrap,IntKind.bits,IntKind.signed,e];rw[if_neg];simp;omega
theorem qmy(a b:Nat)(ha:a<256)(hb:b<256):bits .or .i64 ((a:Int)*256) (b:Int)=((256*a+b:Nat):Int):=by
 have e:((a:Int)*256)=((a*256:Nat):Int):=by omega
 rw[e];show IntKind.i64.wrap ((BitVec.ofInt 64 ((a*256:Nat):Int) ||| BitVec.ofInt 64 (b:Int)).toNat:Int)=_;rw[BitVec.toNat_or,ofInt_u64 _ (by omega),ofInt_u64 b (by omega)];have e2:a*256 ||| b=256*a+b:=by
  rw[show a*256=a <<< 8 from by rw[Nat.shiftLeft_eq],← Nat.shiftLeft_add_eq_or_of_lt (by omega),Nat.shiftLeft_eq];omega
 rw[e2];exact qaK _ (by omega)
theorem qaL(s:ByteArray)(w:World)(h6:s.size<6) :
    Calls prog 135 #[.string s] w (qha (rN (bl s)) w):=by
 rw[qeY (bl s) (by rw[zk];exact h6)];go_enter func135,ntmps135;go_wp2;go_ret2;exact⟨rfl,Below.refl _ _⟩
theorem qcJ(s:ByteArray)(w:World)(hs:s.size≤140737488355328)(h6:6≤s.size) :
    Calls prog 135 #[.string s] w (qha (rN (bl s)) w):=by
 have hi:=qgR (bl s) (by rw[zk];exact h6);have h0:=(s[0]'(by omega)).toNat_lt;have h1:=(s[1]'(by omega)).toNat_lt;have qmz:=qmy _ _ h0 h1;obtain⟨n,hn⟩:∃n:Nat,n=256*(s[0]'(by omega)).toNat+(s[1]'(by omega)).toNat:=⟨_,rfl⟩;have e0:(bl s)[0]'(by rw[zk];omega)=s[0]'(by omega):=rfl;have e1:(bl s)[1]'(by rw[zk];omega)=s[1]'(by omega):=rfl;rw[e0,e1,← hn,zk]at hi;rw[← hn]at qmz;have w0:wrap64 ((s[0]'(by omega)).toNat:Int)=((s[0]'(by omega)).toNat:Int):=by unfold wrap64;omega
 have w1:wrap64 ((s[1]'(by omega)).toNat:Int)=((s[1]'(by omega)).toNat:Int):=by unfold wrap64;omega
 have w2:wrap64 (((s[0]'(by omega)).toNat:Int)*256)=((s[0]'(by omega)).toNat:Int)*256:=by unfold wrap64;omega
 have hw:bits .or .i64 (wrap64 (wrap64 ((s[0]'(by omega)).toNat:Int)*256)) (wrap64 ((s[1]'(by omega)).toNat:Int))=(n:Int):=by rw[w0,w1,w2];exact qmz
 have Hw:=QH hw;clear qmz w0 w1 w2 hw;have hnl:n<65536:=by omega
 have j0:0<s.size:=by omega
 have j1:1<s.size:=by omega
 have i0:(0:Int)<(s.size:Int):=by omega
 have i1:(1:Int)<(s.size:Int):=by omega
 have Hi:=QH hi;clear hi hn e0 e1 h0 h1;go_enter func135,ntmps135;go_wp2;go_quiet (fail);rw[Hw.out];have hz:(s.extract 6 s.size).size=s.size-6:=by simp
 have hx:bl (s.extract 6 s.size)=(bl s).drop 6:=qgy s 6;have Hx:=QH hx;clear hx;generalize s.extract 6 s.size=t at *;by_cases hlt:s.size-6<n
 ·have hc:(t.size:Int)<(n:Int):=by omega
  go_wp2;go_ret2;exact⟨by rw[Hi.out,if_pos hlt];rfl,below_drewN (Below.refl _ _) _⟩
 ·have hc:¬ (t.size:Int)<(n:Int):=by omega
  go_wp2;go_ret2;refine⟨?_,below_drewN (Below.refl _ _) _⟩;rw[Hi.out,if_neg hlt];have:t.extract 0 n=str (((bl s).drop 6).take n):=by rw[← Hx.out,← qoO,fM]
  rw[this];rfl
theorem oW (s:ByteArray)(w:World)(hs:s.size≤140737488355328) :
    Calls prog 135 #[.string s] w (qha (rN (bl s)) w):=by
 by_cases h:s.size<6
 ·exact qaL s w h
 ·exact qcJ s w hs (by omega)
theorem qf0(w:World)(x:ByteArray) :
    (Builtin.copy_ #[118,9] 3 #[.slice (some ⟨w.heap.size,0,none⟩) 32 32,.string x]).run prog (w.alloc (.cells #[Value.int IntKind.u8 0,Value.int IntKind.u8 0,Value.int IntKind.u8 0,Value.int IntKind.u8 0,Value.int IntKind.u8 0,Value.int IntKind.u8 0,Value.int IntKind.u8 0,Value.int IntKind.u8 0,Value.int IntKind.u8 0,Value.int IntKind.u8 0,Value.int IntKind.u8 0,Value.int IntKind.u8 0,Value.int IntKind.u8 0,Value.int IntKind.u8 0,Value.int IntKind.u8 0,Value.int IntKind.u8 0,Value.int IntKind.u8 0,Value.int IntKind.u8 0,Value.int IntKind.u8 0,Value.int IntKind.u8 0,Value.int IntKind.u8 0,Value.int IntKind.u8 0,Value.int IntKind.u8 0,Value.int IntKind.u8 0,Value.int IntKind.u8 0,Value.int IntKind.u8 0,Value.int IntKind.u8 0,Value.int IntKind.u8 0,Value.int IntKind.u8 0,Value.int IntKind.u8 0,Value.int IntKind.u8 0,Value.int IntKind.u8 0] 82)) =
     .ok (.int .i64 ((min x.size 32:Nat):Int)) (w.alloc (.cells (Lib.byteCells (pad ((bl x).take 32))).toArray 82)):=by
 obtain⟨i0,hi,hz0,hz1,hz2⟩:=info_parts Tryz.nj;have hlen:(Lib.byteCells ((bl x).take 32)).length=min x.size 32:=by rw[Lib.byteCells_length,List.length_take,zk,Nat.min_comm]
 have hst:=run_storeCells_at prog w.heap.size 0 82 (Lib.byteCells ((bl x).take 32)) 0 #[Value.int IntKind.u8 0,Value.int IntKind.u8 0,Value.int IntKind.u8 0,Value.int IntKind.u8 0,Value.int IntKind.u8 0,Value.int IntKind.u8 0,Value.int IntKind.u8 0,Value.int IntKind.u8 0,Value.int IntKind.u8 0,Value.int IntKind.u8 0,Value.int IntKind.u8 0,Value.int IntKind.u8 0,Value.int IntKind.u8 0,Value.int IntKind.u8 0,Value.int IntKind.u8 0,Value.int IntKind.u8 0,Value.int IntKind.u8 0,Value.int IntKind.u8 0,Value.int IntKind.u8 0,Value.int IntKind.u8 0,Value.int IntKind.u8 0,Value.int IntKind.u8 0,Value.int IntKind.u8 0,Value.int IntKind.u8 0,Value.int IntKind.u8 0,Value.int IntKind.u8 0,Value.int IntKind.u8 0,Value.int IntKind.u8 0,Value.int IntKind.u8 0,Value.int IntKind.u8 0,Value.int IntKind.u8 0,Value.int IntKind.u8 0] (w.alloc (.cells #[Value.int IntKind.u8 0,Value.int IntKind.u8 0,Value.int IntKind.u8 0,Value.int IntKind.u8 0,Value.int IntKind.u8 0,Value.int IntKind.u8 0,Value.int IntKind.u8 0,Value.int IntKind.u8 0,Value.int IntKind.u8 0,Value.int IntKind.u8 0,Value.int IntKind.u8 0,Value.int IntKind.u8 0,Value.int IntKind.u8 0,Value.int IntKind.u8 0,Value.int IntKind.u8 0,Value.int IntKind.u8 0,Value.int IntKind.u8 0,Value.int IntKind.u8 0,Value.int IntKind.u8 0,Value.int IntKind.u8 0,Value.int IntKind.u8 0,Value.int IntKind.u8 0,Value.int IntKind.u8 0,Value.int IntKind.u8 0,Value.int IntKind.u8 0,Value.int IntKind.u8 0,Value.int IntKind.u8 0,Value.int IntKind.u8 0,Value.int IntKind.u8 0,Value.int IntKind.u8 0,Value.int IntKind.u8 0,Value.int IntKind.u8 0] 82)) (heap_alloc_new w _) (by rw[hlen];simp;omega) (Lib.byteCells_one _);rw[World.setRow_alloc_new,hlen]at hst;have hrow:(List.take (0+0) (#[Value.int IntKind.u8 0,Value.int IntKind.u8 0,Value.int IntKind.u8 0,Value.int IntKind.u8 0,Value.int IntKind.u8 0,Value.int IntKind.u8 0,Value.int IntKind.u8 0,Value.int IntKind.u8 0,Value.int IntKind.u8 0,Value.int IntKind.u8 0,Value.int IntKind.u8 0,Value.int IntKind.u8 0,Value.int IntKind.u8 0,Value.int IntKind.u8 0,Value.int IntKind.u8 0,Value.int IntKind.u8 0,Value.int IntKind.u8 0,Value.int IntKind.u8 0,Value.int IntKind.u8 0,Value.int IntKind.u8 0,Value.int IntKind.u8 0,Value.int IntKind.u8 0,Value.int IntKind.u8 0,Value.int IntKind.u8 0,Value.int IntKind.u8 0,Value.int IntKind.u8 0,Value.int IntKind.u8 0,Value.int IntKind.u8 0,Value.int IntKind.u8 0,Value.int IntKind.u8 0,Value.int IntKind.u8 0,Value.int IntKind.u8 0]:Array Value).toList++Lib.byteCells ((bl x).take 32)++List.drop (0+0+min x.size 32) (#[Value.int IntKind.u8 0,Value.int IntKind.u8 0,Value.int IntKind.u8 0,Value.int IntKind.u8 0,Value.int IntKind.u8 0,Value.int IntKind.u8 0,Value.int IntKind.u8 0,Value.int IntKind.u8 0,Value.int IntKind.u8 0,Value.int IntKind.u8 0,Value.int IntKind.u8 0,Value.int IntKind.u8 0,Value.int IntKind.u8 0,Value.int IntKind.u8 0,Value.int IntKind.u8 0,Value.int IntKind.u8 0,Value.int IntKind.u8 0,Value.int IntKind.u8 0,Value.int IntKind.u8 0,Value.int IntKind.u8 0,Value.int IntKind.u8 0,Value.int IntKind.u8 0,Value.int IntKind.u8 0,Value.int IntKind.u8 0,Value.int IntKind.u8 0,Value.int IntKind.u8 0,Value.int IntKind.u8 0,Value.int IntKind.u8 0,Value.int IntKind.u8 0,Value.int IntKind.u8 0,Value.int IntKind.u8 0,Value.int IntKind.u8 0]:Array Value).toList)=Lib.byteCells (pad ((bl x).take 32)):=by
  have hz:(#[Value.int IntKind.u8 0,Value.int IntKind.u8 0,Value.int IntKind.u8 0,Value.int IntKind.u8 0,Value.int IntKind.u8 0,Value.int IntKind.u8 0,Value.int IntKind.u8 0,Value.int IntKind.u8 0,Value.int IntKind.u8 0,Value.int IntKind.u8 0,Value.int IntKind.u8 0,Value.int IntKind.u8 0,Value.int IntKind.u8 0,Value.int IntKind.u8 0,Value.int IntKind.u8 0,Value.int IntKind.u8 0,Value.int IntKind.u8 0,Value.int IntKind.u8 0,Value.int IntKind.u8 0,Value.int IntKind.u8 0,Value.int IntKind.u8 0,Value.int IntKind.u8 0,Value.int IntKind.u8 0,Value.int IntKind.u8 0,Value.int IntKind.u8 0,Value.int IntKind.u8 0,Value.int IntKind.u8 0,Value.int IntKind.u8 0,Value.int IntKind.u8 0,Value.int IntKind.u8 0,Value.int IntKind.u8 0,Value.int IntKind.u8 0]:Array Value).toList=List.replicate 32 (Value.int IntKind.u8 0):=rfl;rw[hz,List.drop_replicate];simp[pad,Lib.byteCells,zk,Nat.min_comm]
 rw[hrow]at hst;have aV:List.take (x.size.min 32) (List.map (fun b:UInt8=>Value.int IntKind.u8 (b.toNat:Int)) x.data.toList)=Lib.byteCells ((bl x).take 32):=by
  unfold Lib.byteCells bl;rw[← List.map_take]
  congr 1
  show List.take (min x.size 32) x.data.toList=_;rw[show x.size=x.data.toList.length from(zk x).symm,Nat.min_comm,← List.take_take,List.take_length]
 simp[Builtin.copy_,run_underlying underlying118,Builtin.lenOf,Builtin.firstCells,sizeOf,typeInfo,hi];rw[aV,hst];simp[Result.andThen];rfl
def qqe (f:List UInt8)(w:World)(v left:Value)(wr:World):Prop :=
 ∃k:Nat,left=.string (str (f.drop (32*k)))∧32*k<f.length+32∧zH wr w.heap.size v (vV k f)∧Below w.heap.size w wr
def quv (ps:List (List UInt8))(w:World)(e:Ending)(w':World):Prop :=
 ∃v,e=.returned v∧zH w' w.heap.size v ps∧Below w.heap.size w w'
theorem qiO(w:World)(P:List UInt8)(h:P.length=32) :
    (convert 118 9 (.slice (some ⟨w.heap.size,0,none⟩) 32 32)).run prog (w.alloc (.cells (Lib.byteCells P).toArray 82))=.ok (.string (str P)) (w.alloc (.cells (Lib.byteCells P).toArray 82)):=by
 have:=run_convert_bytes_back (P:=prog) (w.alloc (.cells (Lib.byteCells P).toArray 82)) 118 9 5 ⟨w.heap.size,0,none⟩ 32 P underlying118 underlying5 underlying9 (by
  intro j hj;rw[addr_add,Nat.zero_add];simp[World.cell?,World.alloc,-World.alloc_eq,Lib.byteCells,hj])
 rw[h]at this;exact this
theorem qqf{wr:World}{B:Nat}{v:Value}{ps:List (List UInt8)}(h:zH wr B v ps)(A:Array Value)(p:List UInt8) :
    ((wr.alloc (.cells A 82)).alloc (.cells #[.string (str p)] 9)).ownsRow B 9 1 v ps.length (yo ps) :=
 World.ownsRow.alloc (World.ownsRow.alloc h (.cells A 82)) (.cells #[.string (str p)] 9)
theorem qiP(w:World)(o:Obj)(p:List UInt8) :
    ∀j u,([Value.string (str p)]:List Value)[j]?=some u→((w.alloc o).alloc (.cells #[.string (str p)] 9)).cell? ((⟨w.heap.size+1,0,none⟩:Addr).add j)=some u:=by
 intro j u hj
 match j,hj with
 | 0,hj =>
  simp at hj;subst hj;obtain⟨b,q,he,_,hc⟩:=oU [p] (w.alloc o) 0 (by simp);rw[addr_add];simp only[Option.some.injEq,Addr.mk.injEq,and_true]at he;obtain⟨h1,h2⟩:=he;have hsz:(w.alloc o).heap.size=w.heap.size+1:=by simp
  rw[← h1,← h2,hsz]at hc;exact hc
theorem tv {w:World}{B:Nat}{v:Value}{ps:List (List UInt8)}{p:List UInt8}{k:Nat}(hl:ps.length=k)(h:w.ownsRow B 9 1 v (k+1) (yo ps++[.string (str p)])):zH w B v (ps++[p]):=by
 unfold zH;rw[eO,List.length_append,hl];exact h
theorem qqg(f:List UInt8)(w:World)(hs:f.length≤1000000) :
    Calls prog 172 #[.string (str f)] w (quv (vV ((f.length+31)/32) f) w):=by
 obtain⟨i0,hi,hz0,hz1,hz2⟩:=info_parts Tryz.qkH;have hd0:str (f.drop (32*0))=str f:=by simp
 have Hd0:=QH hd0;clear hd0;go_enter func172,ntmps172;go_wp2;go_loopw [3,4] (fun v left wr=>qqe f w v left wr) (fun _ left _=>match left with | .string x=>x.size|_=>0);case atStart=>exact⟨0,by rw[Hd0.out],by omega,World.ownsRow_nil _ _ _ _,Below.refl _ _⟩
 case round =>
  obtain⟨k,rfl,hk,hown,hB⟩:=hrel;by_cases hlt:32*k<f.length
  ·have hz:=qO (f.drop (32*k));rw[List.length_drop]at hz;have hq:(str (f.drop (32*k))).toList.isEmpty=false:=by
    rw[ae,za,List.isEmpty_eq_false_iff];intro h;have:=congrArg List.length h;simp at this;omega
   have rC:=qf0 wr (str (f.drop (32*k)));have hcv:=qiO wr (pad (uz f k)) (nT _ (gy _ _));have qm0:(bl (str (f.drop (32*k)))).take 32=uz f k:=by rw[za];rfl
   rw[qm0]at rC;have qsk:(str (f.drop (32*k))).extract (min (str (f.drop (32*k))).size 32) (str (f.drop (32*k))).size=str (f.drop (32*(k+1))):=by
    rw[← fM (ByteArray.extract _ _ _),qgy,za,List.drop_drop,hz]
    congr 1
    by_cases h:f.length-32*k≤32
    ·rw[Nat.min_eq_left h,List.drop_of_length_le (by omega),List.drop_of_length_le (by omega)]
    ·rw[Nat.min_eq_right (by omega)];rw[show 32*(k+1)=32*k+32 from by omega]
   have qsl:=qeW k f;have hlen:=qa4 k f;have hvl:=oT (vV k f);have qsm:(str (f.drop (32*(k+1)))).size<(str (f.drop (32*k))).size:=by rw[hz,qO,List.length_drop];omega
   have hxs:0<(str (f.drop (32*k))).size:=by omega
   have Hz:=QH hz;clear hz;have qsn:=QH qsk;have qyw:=QH qsl;have qyx:=QH qsm;clear qsk qsl qsm qm0;generalize str (f.drop (32*k))=x at *;generalize pad (uz f k)=p at *;generalize (Lib.byteCells p).toArray=A at *;have hown2:=qqf hown A p;rw[hlen]at hown2;have hB2:=zw (zw hB (.cells A 82)) (.cells #[.string (str p)] 9);have qso:=QH hown2;have hnews:=qiP wr (.cells A 82) p;have h1c:∀u∈([Value.string (str p)]:List Value),u.oneCell'=true:=by
    intro u hu;simp at hu;subst hu;rfl
   have qyy:=QH hnews;have H1c:=QH h1c;have qyz:=hB2.size;clear hnews h1c hown2 hown hB;go_wp2_with (at_builtin;refine wpList_append_own _ rfl (.tmp 13) (.tmp 16) 43 rfl w.heap.size 9 i0 (.string ByteArray.empty) 1 16 underlying43 hi hz0 hz1 hz2 rfl (by decide) _ k _ rfl qso.out ⟨wr.heap.size+1,0,none⟩ 1 1 [.string (str p)] rfl rfl qyy.out H1c.out ?_ ?_ qyz ?_)
   ·unfold maxLen;omega
   ·omega
   ·intro v' w1 hown1 hgrow _;have hn1:=tv hlen hown1;have hb1:=hB2.grown hgrow qyz (fun j hj=>(qso.out.lt j hj).1);rw[← qyw.out]at hn1;clear hown1 hgrow hB2 rC hcv;go_wp2;go_roundw;case rel=>exact⟨k+1,by rw[← qsn.out],by omega,hn1,hb1⟩
    case measure=>have:=qyx.out;rw[← qsn.out]at this;simpa using this
  ·have uV:(f.length+31)/32=k:=by omega
   have hq:(str (f.drop (32*k))).toList.isEmpty=true:=by
    rw[ae,za,List.drop_of_length_le (by omega)];rfl
   have Hk:=QH uV;clear uV;generalize str (f.drop (32*k))=x at *;go_wp2;go_ret;exact⟨_,rfl,by rw[Hk.out];exact hown,hB⟩
def quw (b:Bool)(w:World)(e:Ending)(w':World):Prop:=e=.returned (.bool b)∧Below w.heap.size w w'
def qux (ps qs:List (List UInt8))(w:World)(i:Value)(wr:World):Prop :=
 ∃k:Nat,k≤ps.length∧i=.int .i64 (k:Int)∧ps.take k=qs.take k∧Below w.heap.size w wr
theorem qaM(ps qs:List (List UInt8))(k:Nat)(h1:k<ps.length)(h2:k<qs.length)(h:ps.take k=qs.take k)(e:ps[k]=qs[k]):ps.take (k+1)=qs.take (k+1):=by
 rw[List.take_succ_eq_append_getElem h1,List.take_succ_eq_append_getElem h2,h,e]
theorem aj (a b:Option Addr)(c d:Nat)(ps qs:List (List UInt8))(w:World)(hp:yO w a ps)(hq:yO w b qs)(hl:ps.length≤4611686018427387904)(hm:qs.length≤4611686018427387904) :
    Calls prog 137 #[.slice a ps.length c,.slice b qs.length d] w (quw (decide (ps=qs)) w):=by
 have HP:=QH hp;have HQ:=QH hq;clear hp hq;by_cases hlen:ps.length=qs.length
 ·go_enter func137,ntmps137;go_wp2;go_loopw [13] (fun i wr=>qux ps qs w i wr) (fun i _=>ps.length-(intOf i).toNat);case atStart=>exact⟨0,Nat.zero_le _,rfl,rfl,Below.refl _ _⟩
  case round =>
   obtain⟨k,hk,rfl,ht,hB⟩:=hrel;have Ht:=QH ht;clear ht;by_cases hlt:k<ps.length
   ·have hlq:k<qs.length:=by omega
    obtain⟨b1,o1,rfl,hb1,hc1⟩:=HP.out k hlt;obtain⟨b2,o2,rfl,hb2,hc2⟩:=HQ.out k hlq;have qe1:wr.cell? ⟨b1,o1+k,none⟩=some (.string (str ps[k])):=by rw[hB.cell (p:=⟨b1,o1+k,none⟩) hb1];exact hc1
    have qak:wr.cell? ⟨b2,o2+k,none⟩=some (.string (str qs[k])):=by rw[hB.cell (p:=⟨b2,o2+k,none⟩) hb2];exact hc2
    have q3o:b1<wr.heap.size:=Nat.lt_of_lt_of_le hb1 hB.size;have q3p:b2<wr.heap.size:=Nat.lt_of_lt_of_le hb2 hB.size;have hi1:(k:Int)<(ps.length:Int):=by omega
    have hi2:(k:Int)<(qs.length:Int):=by omega
    have hbq:((str ps[k]).toList == (str qs[k]).toList)=decide (ps[k]=qs[k]):=by rw[fN,za]
    have Hbq:=QH hbq;clear hc1 hc2 hbq;generalize str ps[k]=x at *;generalize str qs[k]=y at *;go_wp2;go_quiet (fail);have hbq:=Hbq.out;generalize (x.toList == y.toList)=q at *;have hB2:=below_drewN hB nq;by_cases he:ps[k]=qs[k]
    ·have hqt:q=true:=by rw[hbq];simpa using he
     have hsn:=QH (qaM ps qs k hlt hlq Ht.out he);clear hbq he;subst hqt;go_wp2;go_roundw;case rel=>exact⟨k+1,by omega,by go_num,hsn.out,hB2⟩
     case measure=>simp[intOf];omega
    ·have hqt:q=false:=by rw[hbq];simpa using he
     have hne:decide (ps=qs)=false:=by
      simp only[decide_eq_false_iff_not];rintro rfl;exact he rfl
     have Hne:=QH hne;clear hbq he hne;subst hqt;go_wp2;go_ret;exact⟨by rw[Hne.out];rfl,hB2⟩
   ·have uV:k=ps.length:=by omega
    have heq:decide (ps=qs)=true:=by
     have:=Ht.out;rw[List.take_of_length_le (by omega),List.take_of_length_le (by omega)]at this;simpa using this
    have Heq:=QH heq;clear heq;go_wp2;go_ret;exact⟨by rw[Heq.out];rfl,hB⟩
 ·have hne:decide (ps=qs)=false:=by
     simp only[decide_eq_false_iff_not];rintro rfl;exact hlen rfl
  have ny:¬ (ps.length:Int)=(qs.length:Int):=by omega
  have Hne:=QH hne;clear hne;go_enter func137,ntmps137;go_wp2;go_ret;exact⟨by rw[Hne.out];rfl,Below.refl _ _⟩
def qm1 (s:ByteArray)(w:World)(e:Ending)(w':World):Prop :=
 ∃v,e=.returned (.tuple #[v,.int .i64 0])∧zH w' w.heap.size v (qL (bl s))∧Below w.heap.size w w'
theorem qf1(a b:List UInt8)(s:ByteArray)(w:World):yO (w.alloc (.cells #[.string (str a),.string (str b),.string s] 9)) (some ⟨w.heap.size,0,none⟩) [a,b,bl s]:=by
 have:=oU [a,b,bl s] w;simp only[yo,List.map_cons,List.map_nil,fM]at this;exact this
theorem qiQ(s:ByteArray)(w:World)(hs:8192<s.size) :
    Calls prog 116 #[.string s] w fun e w'=>e=.returned (.tuple #[.slice none 0 0,.int .i64 3])∧Below w.heap.size w w':=by
 have hc:(8192:Int)<(s.size:Int):=by omega
 go_enter func116,ntmps116;go_wp2;go_ret2;exact⟨rfl,Below.refl _ _⟩
theorem qcL(t:List UInt8):[mA t.length,be4 (wL t),t].flatten=mD t:=by simp[mD,headB]
theorem eR (s:ByteArray)(w:World)(hs:s.size≤8192)(ht:xQ w) :
    Calls prog 116 #[.string s] w (qm1 s w):=by
 have HT:=QH ht;have hg:=ht.1;clear ht;have hn:=qin (bl s);have gG:=qcL (bl s);rw[zk]at gG;have hrl:=dC (bl s);rw[zk]at hrl;have hns:(mD (bl s)).length+31=(bl s).length+37:=by rw[hrl,zk]
 have tx:vV (((mD (bl s)).length+31)/32) (mD (bl s))=qL (bl s):=by rw[hns];rfl
 have Hfl:=QH gG;have Hrl:=QH hrl;have qy0:=QH tx;have Hn:=QH hn;clear gG hrl hns tx hn;go_enter func116,ntmps116;go_wp2_with (go_at_call 170;refine(qcI s.size _ (by omega)).mono ?_);rintro e W1 ⟨rfl,b1⟩;have h1:=QH (HT.out.below b1 hg);go_wp2_with (go_at_call 171;refine(qmn s _ (by omega) h1.out).mono ?_);rintro e W2 ⟨rfl,b2⟩;have b12:=qc b1 b2;clear b1 b2 h1;go_wp2_with (go_at_call 170;refine(qaJ (wL (bl s)) _ Hn.out).mono ?_);rintro e W3 ⟨rfl,b3⟩;have b13:=qc b12 b3;have hst:=qf1 (mA s.size) (be4 (wL (bl s))) s W3;have qkN:([mA s.size,be4 (wL (bl s)),bl s].flatten).length≤140737488355328:=by rw[Hfl.out,Hrl.out];omega
 have qy1:=zw b13 (.cells #[.string (str (mA s.size)),.string (str (be4 (wL (bl s)))),.string s] 9);have hput:=oV _ 3 _ _ hst (by simp) qkN;rw[Hfl.out]at hput;have qcM:=QH hput;clear b12 b3 b13 hst qkN hput;go_wp2_with (go_at_call 136;refine qcM.out.mono ?_);rintro e W4 ⟨rfl,b4⟩;have b14:=qc qy1 b4;have hcut:=qqg (mD (bl s)) W4 (by rw[Hrl.out];omega);rw[qy0.out]at hcut;have q4d:=QH hcut;clear qy1 b4 qcM hcut;go_wp2_with (go_at_call 172;refine q4d.out.mono ?_);rintro e W5 ⟨v,rfl,hown,b5⟩;have b15:=qc b14 b5;have hown':zH W5 w.heap.size v (qL (bl s)):=qaH hown b14.size;clear b14 b5 hown;go_wp2;go_ret2;exact⟨v,rfl,hown',b15⟩
end Go.Proofs.YtdagdllomphidaaGreatDoor
namespace Go.Proofs.YtdagdllomphidaaGreatDoor.dk
open _root_.Go.Proofs.Tryz Go Go.RowKit
section
variable {w:World} {p m:Nat} {v:Value} {d:DD} {own:Nat→Prop}
end
end Go.Proofs.YtdagdllomphidaaGreatDoor.dk
namespace Go.Proofs.YtdagdllomphidaaGreatDoor.dk
open _root_.Go.Proofs.Tryz Go Go.RowKit Go.Shelf
attribute [local go_sem] Oper.semAt_some
abbrev Wr (n:Nat):={ x:Nat × Bt × Bt × Bool // x.1<n∧x.2.1.length=32∧x.2.2.1.length=32 }
end Go.Proofs.YtdagdllomphidaaGreatDoor.dk
namespace Go.Proofs.YtdagdllomphidaaGreatDoor.dk
open _root_.Go.Proofs.Tryz Go Go.RowKit
section
variable {w:World} {p m:Nat} {v:Value} {d:DD} {own:Nat→Prop}
theorem zx.low{most:Nat}(h:zx most w own p d):∀j,own j→j<w.heap.size:=by
 obtain⟨_,m,v,h1⟩:=h;exact h1.2.2.2.2.2.2
theorem zx.below{most:Nat}{w':World}(h:zx most w own p d)(hb:Below w.heap.size w w'):zx most w' own p d :=
 h.keep hb.size (fun j hj=>hb.block j (h.low j hj))
theorem qf3{most:Nat}(h:zx most w own p d)(zP:d.on=true)(k:Int)(hh:d.has k=true)(s:ByteArray)(hs:s.size=32)(hf:d.fits [k]=true)(hop:d.oper.on=false) :
    Calls prog 131 #[.pointer (some ⟨p,0,none⟩),.int .i64 k,.string s] w (xt most own p d.oper (.int .i64 6) w):=by
 have hk0:0≤k∧k<(d.n:Int):=by simpa[DD.has]using hh
 have hn:=h.1.n1;have h2:zx most (w.alloc (.cells #[.int .i64 k] 3)) own p d:=h.below ((Below.refl _ _).alloc (Nat.le_refl _) _);have HF:=QH (eu h2 _ 1 [k] (nQ w k (by omega) (by omega)) (by simp));rw[hf]at HF;have H:=QH h;have HO:=QH (fun(W:World) (hW:zx most W own p d)=>nM hW zP);rw[hop]at HO;obtain⟨h0,m,v,h1⟩:=h;have hhas:=ki h1 k;rw[hh]at hhas;have HH:=QH hhas;obtain⟨c0,c1,c2,c3,c4,c5⟩:=jW h1.1;rw[zP]at c4;have hsz:((s.size:Int) == 32)=true:=by rw[beq_iff_eq];omega
 clear h0 h1 c0 c1 c2 c3 c5 zP hhas hh hs hf h2 hk0 hn hop;go_enter func131,ntmps131;go_wp2_with (first|(go_at_call 134;refine HH.out.mono ?_;rintro e w' ⟨rfl,rfl⟩)|(go_at_call 167;refine HF.out.mono ?_;rintro e w2 ⟨rfl,hb2⟩;have qy:=QH (((Below.refl _ w).alloc (Nat.le_refl _) (.cells #[.int .i64 k] 3)).trans (hb2.mono (by simp)));clear hb2;have HW2:=QH (HO.out w2 (H.out.below qy.out)))|(go_at_call 179;refine HW2.out.mono ?_;rintro e w3 ⟨rfl,eT,hd3,hb3,hg3⟩;have HD3:=QH hd3;have qV:=QH hb3;have HG3:=QH hg3;clear hd3 hb3 hg3));go_ret;exact⟨rfl,eT,HD3.out,(qx.of_below qy.out).trans qV.out (fun _ h=>.inl h),fun j hj=>by
  rcases HG3.out j hj with h|h
  ·exact .inl h
  ·exact .inr (Nat.le_trans qy.out.size h)⟩
theorem qf4{most:Nat}(h:zx most w own p d)(hm:d.more.length<most)(jc:most≤100000)(zP:d.on=true)(k:Int)(hh:d.has k=true)(s:ByteArray)(hs:s.size=32)(hf:d.fits [k]=true)(hop:d.oper.on=true) :
    Calls prog 131 #[.pointer (some ⟨p,0,none⟩),.int .i64 k,.string s] w (xt most own p { d.oper with more:=d.more++[(k.toNat,bl s)] } (.int .i64 0) w):=by
 have hk0:0≤k∧k<(d.n:Int):=by simpa[DD.has]using hh
 have hn:=h.1.n1;have h2:zx most (w.alloc (.cells #[.int .i64 k] 3)) own p d:=h.below ((Below.refl _ _).alloc (Nat.le_refl _) _);have HF:=QH (eu h2 _ 1 [k] (nQ w k (by omega) (by omega)) (by simp));rw[hf]at HF;have H:=QH h;have HO:=QH (fun(W:World) (hW:zx most W own p d)=>nM hW zP);rw[hop]at HO;obtain⟨h0,m,v,h1⟩:=h;have hhas:=ki h1 k;rw[hh]at hhas;have HH:=QH hhas;obtain⟨c0,c1,c2,c3,c4,c5⟩:=jW h1.1;rw[zP]at c4;have hsz:((s.size:Int) == 32)=true:=by rw[beq_iff_eq];omega
 have HS:=QH hs;have HK:=QH hk0;have HN:=QH hn;have HMO:=QH hm;have HMM:=QH jc;have HOP:=QH hop;obtain⟨k,rfl⟩:∃j:Nat,k=(j:Int):=⟨k.toNat,by omega⟩;clear h0 h1 c0 c1 c2 c3 c5 zP hhas hh hs hf h2 hk0 hn hop hm jc;go_enter func131,ntmps131;go_wp2_with (first|(go_at_call 134;refine HH.out.mono ?_;rintro e w' ⟨rfl,rfl⟩)|(go_at_call 167;refine HF.out.mono ?_;rintro e w2 ⟨rfl,hb2⟩;have qy:=QH (((Below.refl _ w).alloc (Nat.le_refl _) (.cells #[.int .i64 (k:Int)] 3)).trans (hb2.mono (by simp)));clear hb2;have HW2:=QH (HO.out w2 (H.out.below qy.out)))|(go_at_call 179;refine HW2.out.mono ?_));rintro e w3 ⟨rfl,eT,hd3,hb3,hg3⟩;have HD3:=QH hd3;have qV:=QH hb3;have HG3:=QH hg3;obtain⟨h30,m3,v3,h31⟩:=hd3;have H30:=QH h30;have H31:=QH h31;obtain⟨A,c,hA⟩:=yV h31.2.2.1;obtain⟨g0,g1,g2,g3,g4,g5⟩:=jW h31.1;have hp3:=h31.1.lt;have hm3:=h31.2.1.lt;have HLB:Hid (((look d.oper.now (k:Int)).getD zz).length=32):=by
  unfold Hid;cases hx:look d.oper.now (k:Int)with
  | none=>exact qX
  | some u=>exact h30.sO hx
 clear hb3 hg3 c4 h30 h31 HF HO HH HW2;go_wp2_with (first|(refine qg rfl (qax _ k rfl rfl) ?_)|(refine qg rfl (qaw rfl) ?_)|(refine wpList_skip rfl (zr w3 125 _ _ (.tmp 7) (.tmp 38) rfl rfl rfl (by rw[qlG,List.size_toArray,yy _ qX qX]) (by simp[yy,qX]) (qtW _)) ?_)|(refine qg rfl (qcp w3 (.tmp 40) (.tmp 41) k s rfl rfl rfl HS.out) ?_)|(at_lookup;refine qg rfl (wK _ _ rfl rfl (H31.out.2.1.of_block (Below.heap_alloc w3 _ _ hm3)) (k:Int) rfl (by omega) (by have:=HK.out;have:=HN.out;omega)) ?_)|(refine wpList_skip rfl (et w3 (.tmp 52) (.tmp 50) k (bl s) _ false rfl rfl rfl (by rw[zk,HS.out]) HLB.out) ?_)|(refine wpList_skip rfl (bB w3 (.tmp 53) (.tmp 51) k (bl s) _ _ rfl rfl rfl (by rw[zk,HS.out]) HLB.out) ?_));have HX:Hid (uv (w3.alloc (.cells (qj (k,bl s,(look d.oper.now (k:Int)).getD zz,(look d.oper.now (k:Int)).isSome)).toArray 125)) eT p m3 v3 d.oper) :=
  H31.out.keep (by simp) (fun j hj=>Below.heap_alloc _ _ _ (HD3.out.low j hj))
 have HXB:Hid (qf (w3.alloc (.cells (qj (k,bl s,(look d.oper.now (k:Int)).getD zz,(look d.oper.now (k:Int)).isSome)).toArray 125)) w3.heap.size 125 (qj (k,bl s,(look d.oper.now (k:Int)).getD zz,(look d.oper.now (k:Int)).isSome)).toArray):=qf.new _ _ _;have HXW:Hid (Below w3.heap.size w3 (w3.alloc (.cells (qj (k,bl s,(look d.oper.now (k:Int)).getD zz,(look d.oper.now (k:Int)).isSome)).toArray 125))):=(Below.refl _ _).alloc (Nat.le_refl _) _;have HXS:Hid ((w3.alloc (.cells (qj (k,bl s,(look d.oper.now (k:Int)).getD zz,(look d.oper.now (k:Int)).isSome)).toArray 125)).heap.size=w3.heap.size+1):=by unfold Hid;simp
 have HLX:Hid ((qj (k,bl s,(look d.oper.now (k:Int)).getD zz,(look d.oper.now (k:Int)).isSome)).length=66):=yy _ (by rw[zk,HS.out]) HLB.out;generalize hX:w3.alloc (.cells (qj (k,bl s,(look d.oper.now (k:Int)).getD zz,(look d.oper.now (k:Int)).isSome)).toArray 125)=X at *;clear hX g0 g1 g2 g3 g4 g5;subst hA;obtain⟨g0,g1,g2,g3,g4,g5⟩:=jW HX.out.1;have hf3:=HX.out.1.frozen 3;have hpX:=HX.out.1.lt;simp only[Act.put];refine wp_region_any (by kernel_rfl) ?_
 change wpAny _ _ _ _ _ _ _ (World.drew _)
 refine wpAny_take (i:=0) (v:=.pointer (some ⟨p,0,none⟩)) rfl (by kernel_rfl) (by kernel_rfl) (by kernel_rfl) (fun _ _ _ h=>h) (Or.inl ⟨by rfl,fun w=>by go_simp⟩) ?_;go_simp;refine wpAny_take (i:=1) (v:=.pointer (some ⟨p,0,none⟩)) rfl (by kernel_rfl) (by kernel_rfl) (by kernel_rfl) (fun _ _ _ h=>h) (Or.inl ⟨by rfl,fun w=>by go_simp⟩) ?_;go_simp;refine wpAny_take (i:=2) (v:=.pointer (some ⟨p,0,none⟩)) rfl (by kernel_rfl) (by kernel_rfl) (by kernel_rfl) (fun _ _ _ h=>h) (Or.inl ⟨by rfl,fun w=>by go_simp⟩) ?_;go_simp;refine wpAny_take (i:=3) (v:=.pointer (some ⟨p,3,none⟩)) rfl (by kernel_rfl) (by kernel_rfl) (by kernel_rfl) (fun _ _ _ h=>h) (Or.inl ⟨by rfl,fun w=>by go_simp⟩) ?_;go_simp;refine rL (i:=4) (j:=5) (l:=6) (di:=58) (dj:=59) (dl:=60) (vi:=.slice A d.oper.more.length c) (vj:=.agg (qj (k,bl s,(look d.oper.now (k:Int)).getD zz,(look d.oper.now (k:Int)).isSome)).toArray) (vl:=.slice (some ⟨X.drew.heap.size,0,none⟩) 1 1) (w2:=X.drew.alloc (.cells (qj (k,bl s,(look d.oper.now (k:Int)).getD zz,(look d.oper.now (k:Int)).isSome)).toArray 125))
  (by kernel_rfl) (by kernel_rfl) (by kernel_rfl) (by kernel_rfl) (by kernel_rfl) (by decide) (by decide) rfl rfl rfl rfl rfl rfl rfl rfl rfl (by decide) (by decide) (dA _ rfl p 3 rfl _ _ _ g3) (dA _ rfl p 3 rfl _ _ _ g3) (dA _ rfl p 3 rfl _ _ _ ((World.cell?_of_block (a:=⟨p,3,none⟩) (Below.heap_alloc _ _ _ hpX)).trans g3))
  (lG _ rfl w3.heap.size rfl _ HXB.out (by rw[List.size_toArray,HLX.out])) (lG _ rfl w3.heap.size rfl _ HXB.out (by rw[List.size_toArray,HLX.out])) (nO _ _ rfl rfl (by rw[List.size_toArray,HLX.out])) (nO _ _ rfl rfl (by rw[List.size_toArray,HLX.out])) ?_
 have qm2:=HX.out.2.2.1;have qy3:=HX.out.2.2.2.2.2.2;have qsp:qf (X.drew.alloc (.cells (qj (k,bl s,(look d.oper.now (k:Int)).getD zz,(look d.oper.now (k:Int)).isSome)).toArray 125)) X.drew.heap.size 125 (qj (k,bl s,(look d.oper.now (k:Int)).getD zz,(look d.oper.now (k:Int)).isSome)).toArray:=qf.new _ _ _;have qm3:(X.drew.alloc (.cells (qj (k,bl s,(look d.oper.now (k:Int)).getD zz,(look d.oper.now (k:Int)).isSome)).toArray 125)).ownsRow 0 125 66 (.slice A d.oper.more.length c) d.oper.more.length (vR (ic d.oper.base d.oper.more)) :=
  xY (w:=X) qm2 (fun j hj=>Below.heap_alloc X.drew _ j (ig qm2 j hj))
 have hml:d.oper.more.length<100000:=by rw[(xK d).2.1];have:=HMO.out;have:=HMM.out;omega
 obtain⟨i0,hi,hz0,hz1,hz2⟩:=info_parts qeQ;refine qI (i:=7) (by kernel_rfl) rfl rfl ?_;refine qay (.tmp 58) (.tmp 60) 105 rfl 0 125 i0 _ 66 80 underlying105 hi hz0 hz1 hz2 (by simp[Value.cells,yy,qX]) (by decide) _ _ _ rfl qm3 ⟨X.drew.heap.size,0,none⟩ 1 1 (qj (k,bl s,(look d.oper.now (k:Int)).getD zz,(look d.oper.now (k:Int)).isSome)) rfl (by rw[HLX.out]) ?_ (dz _) (by unfold maxLen;omega) (by omega) (Nat.zero_le _) ?_
 ·intro j u hu;rw[addr_add,Nat.zero_add,qsp.cell j];simpa using hu
 intro v7 w7 qhc qu4 qm4;obtain⟨A7,c7,rfl⟩:=yV qhc;have hne:=HX.out.ne;have qy4:(X.drew.alloc (.cells (qj (k,bl s,(look d.oper.now (k:Int)).getD zz,(look d.oper.now (k:Int)).isSome)).toArray 125)).heap.size=X.heap.size+1:=by simp
 have qaN:∀j,j<X.heap.size→(Value.slice A d.oper.more.length c).ownBlock≠some j→w7.heap[j]?=X.heap[j]? :=fun j hj hn =>
  (qu4.block j (by rw[qy4];omega) (fun e=>hn e.symm)).trans (Below.heap_alloc X.drew _ j hj)
 have q4g:=HX.out.2.1.lt;have hP7:w7.heap[p]?=X.heap[p]? :=qaN p hpX (fun e=>(hne.2 _ e).1 rfl);have hM7:w7.heap[m3]?=X.heap[m3]? :=qaN m3 q4g (fun e=>(hne.2 _ e).2 rfl);have hvb:∀j,(Value.slice A d.oper.more.length c).ownBlock=some j→j<w3.heap.size:=fun j hj=>HD3.out.low j (HX.out.2.2.2.2.2.1 j hj);have hS7:w7.heap[w3.heap.size]?=X.heap[w3.heap.size]? :=qaN _ (by rw[HXS.out];omega) (fun e=>by have:=hvb _ e;omega);have qsq:Hid (qx eT w3 w7):=by
  refine((qx.of_below (S:=eT) HXW.out).drew.alloc _).grown qu4 (fun j hj=>.inl (HX.out.2.2.2.2.2.1 j hj))
 have qm5:∀j,(Value.slice A7 (d.oper.more.length+1) c7).ownBlock=some j→eT j∨w3.heap.size≤j:=by
  intro j hj;rcases qm4 with e|e
  ·exact .inl (HX.out.2.2.2.2.2.1 j (e.symm.trans hj))
  ·rw[hj]at e;injection e with e
   right
   have:=HXS.out;have e2:X.drew.alloc (.cells (qj (k,bl s,(look d.oper.now (k:Int)).getD zz,(look d.oper.now (k:Int)).isSome)).toArray 125)=X.drew.alloc (.cells (qj (k,bl s,(look d.oper.now (k:Int)).getD zz,(look d.oper.now (k:Int)).isSome)).toArray 125):=rfl;omega
 have qy5:∀j,(Value.slice A7 (d.oper.more.length+1) c7).ownBlock=some j→j<w7.heap.size:=ig qhc;have qsr:∀j,(Value.slice A7 (d.oper.more.length+1) c7).ownBlock=some j→j≠p∧j≠m3:=by
  intro j hj;rcases qm4 with e|e
  ·exact hne.2 j (e.symm.trans hj)
  ·rw[hj]at e;injection e with e
   exact⟨by omega,by omega⟩
 have HP7:Hid (qf w7 p 107 #[.int .i64 (d.oper.n:Int),.int .i64 d.oper.room,.map (some m3),.slice A d.oper.more.length c,.bool d.oper.on,.int .i64 d.oper.qp]):=HX.out.1.of_block hP7;have HM7:Hid (xf w7 m3 d.oper.now):=HX.out.2.1.of_block hM7;have HS7:Hid (qf w7 w3.heap.size 125 (qj (k,bl s,(look d.oper.now (k:Int)).getD zz,(look d.oper.now (k:Int)).isSome)).toArray):=HXB.out.of_block hS7;have HO7:=QH qhc;have HBL:=QH qm5;have HLT:=QH qy5;have HPN:=QH qsr;have HNE:=QH hne;have fX:Hid (w3.heap.size≤w7.heap.size):=qsq.out.size;have k3:=HP7.out.cell 3;have fr3:=HP7.out.frozen 3;have hp7:=HP7.out.lt;clear hS7 hM7 hP7 qaN qu4 qm4 qhc qm2 qm3 qsp qm5 qy5 qsr hne qy4 qy3 g0 g1 g2 g3 g4 g5 hf3 hi hz0 hz1 hz2 hvb hml;go_simp;refine qI (i:=8) (by kernel_rfl) rfl rfl ?_;go_simp;refine qI (i:=9) (by kernel_rfl) rfl rfl ?_;go_simp;refine qI (i:=10) (by kernel_rfl) rfl rfl ?_;go_simp;refine⟨by kernel_rfl,?_⟩;go_wp2_with fail;have HP8:Hid (qf (w7.setCell ⟨p,3,none⟩ (.slice A7 (d.oper.more.length+1) c7)) p 107 #[.int .i64 (d.oper.n:Int),.int .i64 d.oper.room,.map (some m3),.slice A7 (d.oper.more.length+1) c7,.bool d.oper.on,.int .i64 d.oper.qp]):=HP7.out.qo 3 _;have HM8:Hid (xf (w7.setCell ⟨p,3,none⟩ (.slice A7 (d.oper.more.length+1) c7)) m3 d.oper.now):=HM7.out.of_block (xw _ _ _ _ _ (fun e=>HNE.out.1 e.symm));have HS8:Hid (qf (w7.setCell ⟨p,3,none⟩ (.slice A7 (d.oper.more.length+1) c7)) w3.heap.size 125 (qj (k,bl s,(look d.oper.now (k:Int)).getD zz,(look d.oper.now (k:Int)).isSome)).toArray):=HS7.out.of_block (xw _ _ _ _ _ (by omega));have HO8:Hid ((w7.setCell ⟨p,3,none⟩ (.slice A7 (d.oper.more.length+1) c7)).ownsRow 0 125 66 (.slice A7 (d.oper.more.length+1) c7) (d.oper.more.length+1) (vR (ic d.oper.base d.oper.more)++qj (k,bl s,(look d.oper.now (k:Int)).getD zz,(look d.oper.now (k:Int)).isSome))) :=
  xY HO7.out (fun j hj=>xw _ _ _ _ _ (HPN.out j hj).1)
 have qss:Hid (qx eT w3 (w7.setCell ⟨p,3,none⟩ (.slice A7 (d.oper.more.length+1) c7))):=qsq.out.setCell _ _ (.inl H31.out.2.2.2.1);have qy7:Hid ((w7.setCell ⟨p,3,none⟩ (.slice A7 (d.oper.more.length+1) c7)).heap.size=w7.heap.size):=by unfold Hid;simp[size_set]
 generalize hw8:w7.setCell ⟨p,3,none⟩ (.slice A7 (d.oper.more.length+1) c7)=w8 at *;clear hw8 k3 fr3;have q2:=HP8.out.cell 2;have hp8:=HP8.out.lt;have qy8:=rowOf (k,bl s,(look d.oper.now (k:Int)).getD zz,(look d.oper.now (k:Int)).isSome) (by rw[zk,HS.out]) HLB.out;have q4i:=QH qy8;have hlb:(Lib.byteCells (bl s)).length=32:=by rw[Lib.byteCells_length,zk,HS.out]
 have HLb:=QH hlb;clear qy8 hlb;refine jE 7 (by kernel_rfl) (by kernel_rfl) ?_;simp only[List.take_succ_cons,List.take_zero,List.drop_succ_cons,List.drop_zero]
 iterate 6 still_step
 refine kr rfl (qH _ _ rfl w3.heap.size 1 rfl _ _ (Lib.byteCells (bl s)) _ _ HS8.out underlying123 rfl (by rw[nL,HLb.out]) q4i.out.data) ?_;refine wpStill_nil ?_;have hnl:d.oper.now.length=d.n:=by rw[d.oper.jk,qlK]
 have hkn:k<d.oper.now.length:=by rw[hnl];have:=HK.out;omega
 have qy9:d.oper.now.length≤1024:=by rw[hnl];exact HN.out
 have HNL:=QH hnl;have HKN:=QH hkn;have q4j:=QH qy9;clear hnl hkn qy9;refine my (w:=w8.drew) rfl _ _ _ rfl rfl HM8.out k rfl (bl s) rfl HKN.out q4j.out ?_;intro w9 hm9 ht9;have HM9:=QH hm9;have HT9:=QH (uw ht9);clear hm9 ht9;go_wp2_with fail;go_ret;have hb9:∀j,j<w8.heap.size→j≠m3→w9.heap[j]?=w8.heap[j]? :=fun j hj hn=>HT9.out.block j hj hn;have za1:m3<w8.heap.size:=HM8.out.lt;refine⟨rfl,fun j=>eT j∨(Value.slice A7 (d.oper.more.length+1) c7).ownBlock=some j,⟨?_,m3,.slice A7 (d.oper.more.length+1) c7,?_⟩,?_,?_⟩
 ·refine { H30.out with qci:=?_,at1:=?_ }
  ·simp;have:=HMO.out;omega
  ·intro x hx;simp only[List.mem_append,List.mem_singleton]at hx;rcases hx with hx|rfl
   ·exact H30.out.at1 x (by rw[(xK d).2.1];exact hx)
   ·refine⟨?_,by show(bl s).length=32;rw[zk,HS.out]⟩;show k<d.oper.n;rw[qlK];have:=HK.out;omega
 ·have hd:({ d.oper with more:=d.more++[((k:Int).toNat,bl s)] }:DD).now=put d.oper.now k (bl s):=by
     show qU d.oper.base (d.more++[((k:Int).toNat,bl s)])=_;rw[ia,← (xK d).2.1];rfl
  refine⟨?_,by rw[hd];exact HM9.out,?_,.inl HX.out.2.2.2.1,.inl HX.out.2.2.2.2.1,fun j hj=>.inr hj,?_⟩
  ·exact HP8.out.of_block (hb9 p hp8 HNE.out.1)
  ·have e1:(d.more++[((k:Int).toNat,bl s)]).length=d.oper.more.length+1:=by rw[(xK d).2.1];simp
   have e2:vR (ic d.oper.base (d.more++[((k:Int).toNat,bl s)]))=vR (ic d.oper.base d.oper.more)++qj (k,bl s,(look d.oper.now (k:Int)).getD zz,(look d.oper.now (k:Int)).isSome):=by
    rw[Int.toNat_natCast,sP,qeS,(xK d).2.1,dB];rw[show qU d.oper.base d.more=d.now from by rw[(xK d).1];rfl]
   show w9.ownsRow 0 _ 66 _ (d.more++[((k:Int).toNat,bl s)]).length (vR (ic d.oper.base (d.more++[((k:Int).toNat,bl s)])));rw[e1,e2];exact xY HO8.out (fun j hj=>hb9 j (by rw[qy7.out];exact HLT.out j hj) (HPN.out j hj).2)
  ·intro j hj;have h9:=HT9.out.size;have h8:=qss.out.size;have e9:w8.drew.heap.size=w8.heap.size:=rfl;rcases hj with hj|hj
   ·have:=HD3.out.low j hj;omega
   ·have:=HLT.out j hj;have:=qy7.out;omega
 ·have t1:qx own w w2:=qx.of_below qy.out;have t2:qx own w w3:=t1.trans qV.out (fun _ h=>.inl h);refine(t2.trans qss.out ?_).drew.trans HT9.out ?_
  ·intro j hj;rcases HG3.out j hj with h|h
   ·exact .inl h
   ·exact .inr (Nat.le_trans qy.out.size h)
  ·intro j hj;subst hj;rcases HG3.out _ HX.out.2.2.2.2.1 with h|h
   ·exact .inl h
   ·exact .inr (Nat.le_trans qy.out.size h)
 ·intro j hj;have hj2:eT j∨w3.heap.size≤j:=by
   rcases hj with hj|hj
   ·exact .inl hj
   ·exact HBL.out j hj
  have s2:=qy.out.size;have s3:=qV.out.size;rcases hj2 with hj2|hj2
  ·rcases HG3.out j hj2 with h|h
   ·exact .inl h
   ·exact .inr (by omega)
  ·exact .inr (by omega)
end
end Go.Proofs.YtdagdllomphidaaGreatDoor.dk
namespace Go.Proofs.YtdagdllomphidaaGreatDoor.dk
open _root_.Go.Proofs.Tryz Go Go.RowKit
section
variable {w:World} {p m:Nat} {v:Value} {d:DD} {own:Nat→Prop}
theorem iL {most:Nat}(h:zx most w own p d)(hm:d.more.length<most)(jc:most≤100000)(k:Int)(s:ByteArray) :
    Calls prog 131 #[.pointer (some ⟨p,0,none⟩),.int .i64 k,.string s] w (xt most own p (d.write k (bl s)).2 (.int .i64 (d.write k (bl s)).1) w):=by
 unfold DD.write;by_cases h1:d.on=false
 ·rw[if_pos h1];exact iq h h1 k s
 ·rw[if_neg h1];have h1':d.on=true:=by simpa using h1
  by_cases h2:d.has k=false
  ·rw[if_pos (.inl h2)];exact qik h h1' k h2 s
  ·have h2':d.has k=true:=by simpa using h2
   by_cases h3:s.size=32
   ·rw[if_neg (by rw[zk];rintro(h|h);exact h2 h;exact h h3)];have hf:=qlL d k h2';by_cases h4:(look d.now k).isSome=false∧d.room≤(d.used:Int)
    ·rw[if_pos h4];refine qeU h h1' k h2' s h3 ?_;rw[hf,h4.1,Bool.false_or];simp only[decide_eq_false_iff_not];omega
    ·rw[if_neg h4];have hf':d.fits [k]=true:=by
      rw[hf];by_cases h5:(look d.now k).isSome=true
      ·rw[h5];rfl
      ·have h5':(look d.now k).isSome=false:=by simpa using h5
       rw[h5',Bool.false_or];simp only[decide_eq_true_eq];have:¬ d.room≤(d.used:Int):=fun e=>h4 ⟨h5',e⟩;omega
     by_cases h5:d.oper.on=false
     ·rw[if_pos h5];exact qf3 h h1' k h2' s h3 hf' h5
     ·rw[if_neg h5];exact qf4 h hm jc h1' k h2' s h3 hf' (by simpa using h5)
   ·rw[if_pos (.inr (by rw[zk];exact h3))];exact qil h h1' k h2' s h3
theorem qiS{most:Nat}(h:zx most w own p d) :
    Calls prog 132 #[.pointer (some ⟨p,0,none⟩)] w (xt most own p d.flush.2 (.int .i64 d.flush.1) w):=by
 unfold DD.flush;by_cases zP:d.on=false
 ·rw[if_pos zP];have H:=QH h;obtain⟨h0,m,v,h1⟩:=h;obtain⟨c0,c1,c2,c3,c4,c5⟩:=jW h1.1;rw[zP]at c4;clear h0 h1 c0 c1 c2 c3 c5 zP;go_enter func132,ntmps132;go_wp2_with fail;go_ret;exact⟨rfl,own,H.out,qx.refl _ _,uY.refl _ _⟩
 ·rw[if_neg zP];have qu6:d.on=true:=by simpa using zP
  have HO:=QH (nM h qu6);have H:=QH h;have hp:=h.2.choose_spec.choose_spec.1.lt;obtain⟨h0,m,v,h1⟩:=h;obtain⟨c0,c1,c2,c3,c4,c5⟩:=jW h1.1;rw[qu6]at c4;clear h0 h1 c0 c1 c2 c3 c5 zP qu6;by_cases hop:d.oper.on=false
  ·rw[if_pos hop];rw[hop]at HO;clear hop;go_enter func132,ntmps132;go_wp2_with (go_at_call 179;refine HO.out.mono ?_;rintro e w3 ⟨rfl,eT,hd3,hb3,hg3⟩;have HD3:=QH hd3;have qV:=QH hb3;have HG3:=QH hg3;clear hd3 hb3 hg3);go_ret;exact⟨rfl,eT,HD3.out,qV.out,HG3.out⟩
  ·rw[if_neg hop];rw[show d.oper.on=true by simpa using hop]at HO;clear hop;go_enter func132,ntmps132;go_wp2_with (go_at_call 179;refine HO.out.mono ?_);rintro e w3 ⟨rfl,eT,hd3,hb3,hg3⟩;have HD3:=QH hd3;have qV:=QH hb3;have HG3:=QH hg3;obtain⟨h30,m3,v3,h31⟩:=hd3;have H30:=QH h30;have H31:=QH h31;obtain⟨A,c,rfl⟩:=yV h31.2.2.1;obtain⟨g0,g1,g2,g3,g4,g5⟩:=jW h31.1;have f3:=h31.1.frozen 3;have hp3:=h31.1.lt;clear hb3 hg3 c4 h30 h31 HO;go_wp2_with fail;go_ret;have hne:=H31.out.ne;refine⟨rfl,eT,⟨?_,m3,.slice none 0 0,?_⟩,qV.out.trans (S':=eT) ((qx.refl _ _).setCell _ _ (.inl H31.out.2.2.2.1)) HG3.out,HG3.out⟩
   ·have hl:d.now.length=d.oper.n:=by rw[← dB];exact d.oper.jk
    refine { H30.out with n0:=?_,n1:=?_,qci:=Nat.zero_le _,at1:=fun _ h=>by simp at h,qrV:=?_ }
    ·show 1≤d.now.length;rw[hl];exact H30.out.n0
    ·show d.now.length≤1024;rw[hl];exact H30.out.n1
    ·show ∀v,some v∈d.now→v.length=32;rw[← dB];exact H30.out.qxS
   ·obtain⟨b1,b2,b3,b4,b5,b6,b7⟩:=H31.out;refine⟨?_,?_,⟨rfl,.inl ⟨rfl,rfl⟩⟩,b4,b5,fun k hk=>by simp[Value.ownBlock]at hk,fun k hk=>by rw[size_set];exact b7 k hk⟩
    ·have hl:(DD.n { d.oper with base:=d.now,more:=[] })=d.oper.n:=by
        show d.now.length=d.oper.n;rw[← dB];exact d.oper.jk
     rw[hl];exact b1.qo 3 _
    ·have hn:(DD.now { d.oper with base:=d.now,more:=[] })=d.oper.now:=by
        show d.now=d.oper.now;rw[dB]
     rw[hn];exact b2.of_block (xw _ _ _ _ _ (fun e=>hne.1 e.symm))
end
end Go.Proofs.YtdagdllomphidaaGreatDoor.dk
namespace Go.Proofs.YtdagdllomphidaaGreatDoor.dk
open _root_.Go.Proofs.Tryz Go Go.RowKit Go.Shelf
attribute [local go_sem] Oper.semAt_some
section
variable {w:World} {p m:Nat} {v:Value} {d:DD} {own:Nat→Prop}
end
end Go.Proofs.YtdagdllomphidaaGreatDoor.dk
namespace Go.Proofs.YtdagdllomphidaaGreatDoor.dk
open _root_.Go.Proofs.Tryz Go Go.RowKit
theorem lx (z:Nat):madeCells #[Value.int .u8 0] z=(Lib.byteCells (List.replicate z 0)).toArray:=by
 apply Array.ext';apply List.ext_getElem?;intro j;by_cases hj:j<z <;> simp[madeCells,Lib.byteCells,hj,Nat.mod_one]
def part (c:UInt8)(k:Nat):Array Value:=(Lib.byteCells (List.replicate k c++List.replicate (32-k) 0)).toArray
theorem br (c:UInt8)(n:Nat):(rep c n).length=n:=by simp[rep]
def In (most:Nat)(w:World)(B p:Nat)(d:DD):Prop:=∃own,zx most w own p d∧∀k,own k→B≤k
def qqi (most B p:Nat)(d:DD)(r:Value)(w:World)(e:Ending)(w':World):Prop:=e=.returned r∧In most w' B p d∧Below w.heap.size w w'
theorem In.below{most:Nat}{w w':World}{B p:Nat}{d:DD}(h:In most w B p d)(hb:Below w.heap.size w w'):In most w' B p d:=by
 obtain⟨own,h1,h2⟩:=h;exact⟨own,h1.below hb,h2⟩
theorem In.ok{most:Nat}{w:World}{B p:Nat}{d:DD}(h:In most w B p d):d.ok most:=by
 obtain⟨own,h1,h2⟩:=h;exact h1.1
theorem In.mono{most qst:Nat}{w:World}{B p:Nat}{d:DD}(h:In most w B p d)(hm:most≤qst):In qst w B p d:=by
 obtain⟨own,⟨h1,h3⟩,h2⟩:=h;exact⟨own,⟨h1.mono hm,h3⟩,h2⟩
theorem In.lt{most:Nat}{w:World}{B p:Nat}{d:DD}(h:In most w B p d):B≤p∧p<w.heap.size:=by
 obtain⟨own,⟨_,m,v,h1⟩,h2⟩:=h;exact⟨h2 p h1.2.2.2.1,h1.1.lt⟩
section
variable {most:Nat} {w:World} {B p:Nat} {d:DD}
theorem qhd(h:In most w B p d)(k:Int)(v:Bt)(s:ByteArray)(hs:str v=s)(r:Int)(h1:d.read k=(v,r)) :
    Calls prog 89 #[.pointer (some ⟨p,0,none⟩),.int .i64 k] w (qqi most B p d (.tuple #[.string s,.int .i64 r]) w):=by
 have hI:=h;obtain⟨own,hd,ho⟩:=h;subst hs;have key:Calls prog 89 #[.pointer (some ⟨p,0,none⟩),.int .i64 k] w (vS (d.read k) w):=by
  obtain⟨h0,m,v,h1⟩:=hd;unfold DD.read;by_cases zP:d.on=false
  ·rw[if_pos zP];exact qcl h1 zP k
  ·rw[if_neg zP];by_cases hh:d.has k=false
   ·rw[if_pos hh];exact qcm h1 (by simpa using zP) k hh
   ·rw[if_neg hh];exact qgO h0 h1 (by simpa using zP) k (by simpa using hh)
 rw[h1]at key;exact key.mono fun e w' h=>⟨h.1,hI.below h.2,h.2⟩
end
end Go.Proofs.YtdagdllomphidaaGreatDoor.dk
namespace Go.Proofs.YtdagdllomphidaaGreatDoor.dk
open _root_.Go.Proofs.Tryz Go Go.RowKit
theorem In.base{most:Nat}{w:World}{B B' p:Nat}{d:DD}(h:In most w B p d)(hB:B'≤B):In most w B' p d:=by
 obtain⟨own,h1,h2⟩:=h;exact⟨own,h1,fun k hk=>Nat.le_trans hB (h2 k hk)⟩
end Go.Proofs.YtdagdllomphidaaGreatDoor.dk

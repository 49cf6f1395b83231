/- SlotsT, VgEff, VgAdds, VgAb, VgTb1, Ims, AppAt, VgTb5, FMem, FPut, FIns, FCopy, FCut, FEq, FPack, DkUsed, DkBack, DkWrite2. -/
import Derived.Test.YtdpbdkacngaemaaGreatDoorZR4
import Derived.Laws.BitsAllLaws
import Derived.RangeFuncNested
import Derived.RangeFuncBound
import Derived.RangeFuncCalls
import Derived.RangeFuncLeaves
import Derived.Shelf.Abstract
import Derived.Shelf.RegionOpen
import Derived.OwnWalkIn
import Derived.TacticsInMore
import Derived.LoopNIn
import Derived.LoopIn
set_option linter.unusedVariables false
set_option linter.unusedSimpArgs false
set_option maxHeartbeats 30000000
set_option maxRecDepth 100000
namespace Go.Proofs.YtdpbdkacngaemaaGreatDoor
open _root_.Go.Proofs.Tryz Go Go.RowKit
section
variable {P:Program} {ops:Array Oper} {Q:Exit→Act→World→Prop}
def qbq (ops:Array Oper)(m:Nat)(ds:List Tmp)(size:Nat)(fs:List Nat):Bool :=
 decide (m≤ops.size)&&decide (ds.length=m)&&decide ds.Nodup&&ds.all (fun d=>decide (d<size)) &&
 (List.range m).all (fun i=>match ops[i]? with
  | some o=>o.guard.isNone&&o.dst == ds[i]? && (match o.op with | .select .. => false|_=>true) &&
   o.after.all (fun e=>!Region.binds .any e || decide (e.on<i)) &&
   o.op.operands.toList.all (fun x=>match x with
    | .tmp t=>match ds.idxOf? t with
     | some j=>zg ops i j
     | none=>true
    | _=>true)
  | none=>false) &&
 (List.range ops.size).all (fun j=>decide (j<m) || (match ops[j]? with
  | some o=>(o.after.any fun e=>Region.binds .any e&&decide (m≤e.on)) || (List.range m).all (fun i=>fs.contains i || zg ops j i || (List.range m).any (fun k=>zg ops k i))
  | none=>false))
structure qdl(ops:Array Oper)(m:Nat)(ds:List Tmp)(size:Nat)(fs:List Nat):Prop where
 le:m≤ops.size
 len:ds.length=m
 nodup:ds.Nodup
 small:∀d∈ds,d<size
 each:∀i,i<m→∃o,ops[i]?=some o∧o.guard=none∧o.dst=ds[i]? ∧ (∀cs b,o.op ≠ .select cs b)∧(∀e∈o.after,Region.binds .any e=true→e.on<i) ∧
  (∀t j,Operand.tmp t∈o.op.operands→ds.idxOf? t=some j→zg ops i j=true)
 tail:∀j o,m≤j→ops[j]?=some o→(∃e∈o.after,Region.binds .any e=true∧m≤e.on)∨(∀i,i<m→i∈fs∨zg ops j i=true∨∃k,k<m∧zg ops k i=true)
theorem qjC{m:Nat}{ds:List Tmp}{size:Nat}{fs:List Nat}(h:qbq ops m ds size fs=true):qdl ops m ds size fs:=by
 unfold qbq at h;simp only[Bool.and_eq_true,decide_eq_true_eq,List.all_eq_true,List.mem_range]at h;obtain⟨⟨⟨⟨⟨h1,h2⟩,h3⟩,h4⟩,h5⟩,h6⟩:=h;refine⟨h1,h2,h3,h4,fun i hi=>?_,fun j o hj ho=>?_⟩
 ·have h:=h5 i hi;cases ho:ops[i]? with
  | none=>simp[ho]at h
  | some o =>
   simp only[ho,Bool.and_eq_true]at h;obtain⟨⟨⟨⟨g1,g2⟩,g3⟩,g4⟩,g5⟩:=h;refine⟨o,rfl,by simpa using g1,by simpa using g2,fun cs b hs=>by simp[hs]at g3,fun e he hb=>?_,fun t j ht hj=>?_⟩
   ·have:=Array.all_eq_true_iff_forall_mem.1 g4 e he;simpa[hb]using this
   ·have:=List.all_eq_true.1 g5 (.tmp t) (by simpa using ht);simpa[hj]using this
 ·have hlt:j<ops.size:=(Array.getElem?_eq_some_iff.1 ho).1;have h:=h6 j hlt;simp only[ho,Bool.or_eq_true,decide_eq_true_eq]at h;rcases h with h|h|h
  ·omega
  ·obtain⟨e,he,hb⟩:=Array.any_eq_true'.1 h;simp only[Bool.and_eq_true,decide_eq_true_eq]at hb;exact .inl ⟨e,he,hb.1,hb.2⟩
  ·refine .inr fun i hi=>?_;have:=List.all_eq_true.1 h i (by simpa using hi);simp only[Bool.or_eq_true,List.any_eq_true,List.mem_range]at this;rcases this with(h|h)|h
   ·exact .inl (by simpa using h)
   ·exact .inr (.inl h)
   ·exact .inr (.inr h)
variable {a0:Act} {w0:World} {m:Nat} {ds:List Tmp} {G:Nat→Value→World→Prop}
theorem p8 {fs:List Nat}(ok:qdl ops m ds a0.tmps.size fs)
    (mono:∀i v w w',i<m→G i v w→Below w.heap.size w w'→G i v w')
    (step:∀i o vs w,i<m→ops[i]?=some o→Below w0.heap.size w0 w→(∀j,zg ops i j=true→G j (vs j) w) →
     kj P (fun v w'=>Below w.heap.size w w'∧G i v w') ((execOp (valOf a0 ds vs) o).run P w))
    (fin:∀vs w',Below w0.heap.size w0 w'→(∀i,i<m→G i (vs i) w')→wpAny P .any ops Q (ops.size-m) (xH ops.size m) (qX vs ds a0) w') :
    ∀(r:Nat) (listed:Array Bool) (vs:Nat→Value) (a:Act) (w:World),qqW ops a0 w0 m ds G listed vs a w→(∀i∈fs,listed.getD i false=true)→zN m listed=r→wpAny P .any ops Q (ops.size-m+r) listed a w
 | 0,listed,vs,a,w,hI,hF,hr=>by
  have hall:=vk hr;have hl:listed=xH ops.size m:=by
   apply Array.ext
   ·simp[xH,hI.size]
   ·intro i h1 h2;have e:listed.getD i false=listed[i]:=by simp[h1]
    by_cases hi:i<m
    ·have:=hall i hi;rw[e]at this;simp[xH,this,hi]
    ·have:=hI.tail i (by omega);rw[e]at this;simp[xH,this,hi]
  have ha:a=qX vs ds a0:=by
   rw[hI.act];exact xG _ _ _ _ ds 0 a0 fun j _ hj=>⟨hall j (by rw[← ok.len];omega),fun _=>rfl⟩
  rw[hl,ha,Nat.add_zero];exact fin vs w hI.ext fun i hi=>hI.good i hi (hall i hi)
 | r+1,listed,vs,a,w,hI,hF,hr=>by
  refine⟨fun h0=>?_,fun i hi=>?_⟩
  ·
   exfalso;have hex:∃i,i<m∧listed.getD i false=false:=by
    apply Classical.byContradiction;intro hn;have:zN m listed=0:=by
     unfold zN;rw[List.countP_eq_zero];intro i hi;have hi':=List.mem_range.1 hi;cases hb:listed.getD i false
     ·exact absurd ⟨i,hi',hb⟩ hn
     ·simp
    omega
   have key:∀n i,i<n→i<m→listed.getD i false=false→False:=by
    intro n
    induction n with
    | zero=>intro i h;omega
    | succ n ih =>
     intro i hin vK hf;obtain⟨o,ho,_,_,_,xB,_⟩:=ok.each i vK;have hs:i<listed.size:=by rw[hI.size];exact Nat.lt_of_lt_of_le vK ok.le
     have:i∈Region.ready .any ops listed:=by
      rw[mem_ready];refine⟨by rw[zo hs];exact hf,o,ho,fun e he hb=>?_⟩;cases hb':listed.getD e.on false
      ·exact(ih e.on (by have:=xB e he hb;omega) (by have:=xB e he hb;omega) hb').elim
      ·rfl
     rw[h0]at this;cases this
   obtain⟨i,vK,hf⟩:=hex;exact key (i+1) i (by omega) vK hf
  ·obtain⟨rZ,o,ho,hall⟩:=mem_ready.1 hi;have hio:i<ops.size:=(Array.getElem?_eq_some_iff.1 ho).1;have hs:i<listed.size:=by rw[hI.size];exact hio
   have hf:listed.getD i false=false:=by rw[← zo hs];exact rZ
   by_cases vK:i<m
   ·obtain⟨o',ho',hgd,qaK,qcy,xB,qaL⟩:=ok.each i vK;obtain rfl:o=o':=Option.some.inj (ho.symm.trans ho');unfold wpOp;simp only[ho];have hw:Region.wanted o (yielded ops a.tmps)=true:=by simp[Region.wanted,hgd]
    rw[if_pos hw]
    left
    have hρ:execOp a.eval o=execOp (valOf a0 ds vs) o:=by
     refine execOp_congr o qcy fun x hx=>?_;rw[hI.act];cases x with
     | tmp t =>
      cases hj:ds.idxOf? t with
      | none =>
       rw[yi hj];exact kq _ _ t ds 0 a0 (by rw[List.idxOf?_eq_none_iff]at hj;exact hj)
      | some j =>
       rw[yj hj];have hdj:ds[j]?=some t:=by
        have:=List.of_findIdx?_eq_some (p:=(· == t)) (xs:=ds) (i:=j) (by simpa[List.idxOf?]using hj);cases hd:ds[j]? with
        | none=>simp[hd]at this
        | some d=>simp[hd]at this;rw[this]
       obtain⟨e,he,hb,rfl⟩:=xi ho (qaL t j hx hj);have:=uv (fun i=>listed.getD i false) vs t ds 0 e.on a0 ok.nodup hdj (by simpa using hall e he hb) (ok.small t (List.mem_of_getElem? hdj));simpa using this
     | const v=>simp only[valOf];rfl
     | global g=>simp only[valOf];rfl
     | func f=>simp only[valOf];rfl
    have hst:=step i o vs w vK ho hI.ext fun j hj=>by
     obtain⟨e,he,hb,rfl⟩:=xi ho hj;exact hI.good e.on (by have:=xB e he hb;omega) (hall e he hb)
    rw[← hρ]at hst;refine wT hst fun v w' ⟨bq,hG⟩=>?_;have hdi:∃d,ds[i]?=some d:=⟨ds[i]'(by rw[ok.len];exact vK),List.getElem?_eq_getElem _⟩;obtain⟨d,hd⟩:=hdi;refine p8 ok mono step fin r (listed.setIfInBounds i true) (zE vs i v) (a.put o.dst v) w' ⟨?_,?_,?_,?_,?_,?_⟩ (fun k hk=>getD_set_true (hF k hk)) ?_
    ·simp[hI.size]
    ·intro j hj;rw[getD_set_ne false (by omega)];exact hI.tail j hj
    ·intro j oj hoj hl e he hb;by_cases gZ:j=i
     ·subst gZ;obtain rfl:o=oj:=Option.some.inj (ho.symm.trans hoj);exact getD_set_true (hall e he hb)
     ·rw[getD_set_ne false (Ne.symm gZ)]at hl;exact getD_set_true (hI.closed j oj hoj hl e he hb)
    ·exact qcw hI.ext bq
    ·intro j hj hl;by_cases gZ:j=i
     ·subst gZ;simpa[zE]using hG
     ·rw[getD_set_ne false (Ne.symm gZ)]at hl;have:=mono j _ w w' hj (hI.good j hj hl) bq;simpa[zE,gZ]using this
    ·rw[qaK,hd,hI.act];have:=km (fun i=>listed.getD i false) vs i v ds 0 a0 d ok.nodup (Nat.zero_le _) (by simpa using hd) hf;rw[this,yG hs]
    ·have:=uJ vK hs hf;omega
   ·exfalso;have hex:∃k,k<m∧listed.getD k false=false:=by
     apply Classical.byContradiction;intro hn;have:zN m listed=0:=by
      unfold zN;rw[List.countP_eq_zero];intro k hk;cases hb:listed.getD k false
      ·exact absurd ⟨k,List.mem_range.1 hk,hb⟩ hn
      ·simp
     omega
    rcases ok.tail i o (by omega) ho with⟨e,he,hb,hme⟩|qvj
    ·have h1:=hall e he hb;rw[hI.tail e.on hme]at h1;cases h1
    ·have key:∀n k,m-k≤n→k<m→listed.getD k false=true:=by
        intro n
        induction n with
        | zero=>intro k h1 h2;omega
        | succ n ih =>
         intro k h1 h2;rcases qvj k h2 with h|h|⟨k',dE,h⟩
         ·exact hF k h
         ·obtain⟨e,he,hb,rfl⟩:=xi ho h;exact hall e he hb
         ·obtain⟨ok',qmx,_,_,_,xB,_⟩:=ok.each k' dE;obtain⟨e,he,hb,rfl⟩:=xi qmx h;have hlt:=xB e he hb;exact hI.closed k' ok' qmx (ih k' (by omega) dE) e he hb
     obtain⟨k,hk,hkf⟩:=hex;rw[key m k (by omega) hk]at hkf;cases hkf
theorem vA {id:Nat}{a:Act}{w:World}(hm:P.follows .mixedOrders=true)(m:Nat)(ds:List Tmp)(hok:qbq ops m ds a.tmps.size [0]=true)(G:Nat→Value→World→Prop)
    (o0:Oper) (v0:Value) (ho0:ops[0]?=some o0) (h0m:0<m) (hs:Region.noSelect ops=true) (hf:Region.free .any ops (Array.replicate ops.size false) 0=true) (hr:(Region.ready .any ops (Array.replicate ops.size false)).contains 0=true)
    (hQ:∀c a w,Q (.panic c) (a.put o0.dst v0) w→Q (.panic c) a w) (hy:Yields P ops o0 v0 a) (hG0:∀W,G 0 v0 W)
    (mono:∀i v w w',i<m→G i v w→Below w.heap.size w w'→G i v w')
    (step:∀i o vs ρ w',i<m→ops[i]?=some o→Reads a ds vs ρ→(∀f,ρ (.func f)=a.eval (.func f))→Below w.heap.size w w'→(∀j,zg ops i j=true→G j (vs j) w') →
     kj P (fun v w''=>Below w'.heap.size w' w''∧G i v w'') ((execOp ρ o).run P w'))
    (fin:∀vs w',Below w.heap.size w w'→(∀i,i<m→G i (vs i) w')→wpAny P .any ops Q (ops.size-m) (xH ops.size m) (qX vs ds a) w') :
    (Code.region id ops true).wp P Q a w:=by
 have ok:=qjC hok;have hd:Below w.heap.size w { w with drawn:=w.drawn+1 }:=⟨rfl,rfl,rfl,Nat.le_refl _,fun _ _=>rfl⟩;refine wp_region_any hm ?_;have hc:zN m (Array.replicate ops.size false)=m:=by
  have:=List.countP_eq_length (l:=List.range m) (p:=fun i=>!(Array.replicate ops.size false).getD i false) |>.2 fun i _=>by rw[zS];rfl
  unfold zN;rw[this,List.length_range]
 have ha:a=qK (fun i=>(Array.replicate ops.size false).getD i false) (fun _=>undef) ds 0 a:=by
  have:qK (fun i=>(Array.replicate ops.size false).getD i false) (fun _=>undef) ds 0 a=qK (fun _=>false) (fun _=>undef) ds 0 a:=xG _ _ _ _ ds 0 a fun j _ _=>⟨zS _ j,fun _=>rfl⟩;rw[this];exact(kL ds 0 a).symm
 have hsz:0<(Array.replicate ops.size false).size:=by
  have:=ok.le;simp;omega
 have hc2:=uJ (listed:=Array.replicate ops.size false) h0m hsz (zS _ 0);obtain⟨o',ho',hgd,qaK,qcy,xB,qaL⟩:=ok.each 0 h0m;obtain rfl:o0=o':=Option.some.inj (ho0.symm.trans ho');have hdi:∃d,ds[0]?=some d:=⟨ds[0]'(by rw[ok.len];exact h0m),List.getElem?_eq_getElem _⟩;obtain⟨d,hdd⟩:=hdi;have hI:qqW ops a w m ds G ((Array.replicate ops.size false).setIfInBounds 0 true) (zE (fun _=>undef) 0 v0) (a.put o0.dst v0) { w with drawn:=w.drawn+1 }:={
  size:=by simp
  tail:=fun j hj=>by
   rw[getD_set_ne false (by omega)];exact zS _ j
  closed:=fun i o hio h e he hb=>by
   by_cases hi:i=0
   ·subst hi;obtain rfl:o0=o:=Option.some.inj (ho0.symm.trans hio);have:=xB e he hb;omega
   ·rw[getD_set_ne false (Ne.symm hi),zS]at h;cases h
  ext:=hd
  good:=fun i _ h=>by
   by_cases hi:i=0
   ·subst hi;simpa[zE]using hG0 _
   ·rw[getD_set_ne false (Ne.symm hi),zS]at h;cases h
  act:=by
   have:=km (fun i=>(Array.replicate ops.size false).getD i false) (fun _=>undef) 0 v0 ds 0 a d ok.nodup (Nat.zero_le _) (by simpa using hdd) (zS _ 0);rw[qaK,hdd]
   conv=>lhs;rw[ha]
   rw[this,yG hsz] }
 have h1:=p8 (Q:=Q) (fs:=[0]) ok mono (fun i o vs w' hi ho hb hG=>step i o vs (valOf a ds vs) w' hi ho ⟨fun _ _ h=>yj h,fun _ h=>yi h,fun _=>rfl⟩ (fun _=>rfl) hb hG) fin (m-1) _ _ _ _ hI (fun i hi=>by
  obtain rfl:i=0:=by simpa using hi
  simp;have:=ok.le;omega) (by omega)
 have e:ops.size=(ops.size-m+(m-1))+1:=by
  have:=ok.le;omega
 have h2:=wpAny_take (P:=P) (md:=.any) (ops:=ops) (Q:=Q) (fuel:=ops.size-m+(m-1)) ho0 hs hf hr hQ hy h1;rw[← e]at h2;exact h2
end
end Go.Proofs.YtdpbdkacngaemaaGreatDoor
namespace Go.Proofs.YtdpbdkacngaemaaGreatDoor.vt.pg
open _root_.Go.Proofs.Tryz Go Go.RowKit ib mt im sp
abbrev pt (g:Nat):Value:=.pointer (some ⟨g,0,none⟩)
structure Nx(G:Nat→Prop)(w:World)(g:Nat)(m:Mt):Prop where
 ex:∃A0 A1 A2 c0 c1 c2,qd w g 96 (zJ A0 A1 A2 c0 c1 c2 m)∧um (fun j=>G j∧j≠g) w A0 A1 A2 c0 c1 c2 m
def qrJ (G:Nat→Prop)(g:Nat)(m':Mt)(w:World)(e:Ending)(w':World):Prop:=e=.returned (.tuple #[])∧Nx G w' g m'∧ib.qB (fun j=>j=g) w w'
def wJ (G:Nat→Prop)(W0:World)(f:Value)(m m':Mt):Prop:=∃k uS,f=.func (.func k) #[] uS∧(∀(a:Array Value) (W:World),Sem.run prog (callFunc k a) W=Result.ok (Next.enter k a) W) ∧
 ∀W g,Below W0.heap.size W0 W→W0.heap.size≤g→Nx G W g m→Calls prog k (#[pt g]++uS) W (qrJ G g m' W)
theorem wJ.below{G:Nat→Prop}{w w':World}{f:Value}{m m':Mt}(h:wJ G w f m m')(hb:Below w.heap.size w w'):wJ G w' f m m':=by
 obtain⟨k,uS,h1,h2,h3⟩:=h;exact⟨k,uS,h1,h2,fun W g h4 h5 h6=>h3 W g (qa hb h4) (Nat.le_trans hb.size h5) h6⟩
theorem ar {G:Nat→Prop}{w:World}{g k:Nat}{u:Value}(hg:∀j,G j→j≠g):wI G w (w.setCell ⟨g,k,none⟩ u) :=
 ⟨by simp[World.setCell],fun j hj _=>qy _ _ _ _ _ (hg j hj)⟩
theorem qrK(w:World)(g k:Nat)(u:Value):ib.qB (fun j=>j=g) w (w.setCell ⟨g,k,none⟩ u):=(ib.qB.refl _ w).setCell ⟨g,k,none⟩ u (.inl rfl)
theorem Nx.drew{G:Nat→Prop}{w:World}{g:Nat}{m:Mt}(h:Nx G w g m):Nx G w.drew g m:=by
 obtain⟨A0,A1,A2,c0,c1,c2,hk,ht⟩:=h.ex;exact⟨A0,A1,A2,c0,c1,c2,hk,ht.stay ⟨Nat.le_refl _,fun j _ _=>rfl⟩⟩
theorem qvU{w:World}(t:TypeId)(v:Value):(w.alloc (.cells #[v] t)).cell? ⟨w.heap.size,0,none⟩=some v:=(qd.new w t #[v]).cell 0
theorem qge{G:Nat→Prop}{w:World}{g pb:Nat}{m:Mt}{A:Option Addr}{c:Nat}{l:List Int}(hN:Nx G w g m)(hp:w.cell? ⟨pb,0,none⟩=some (.slice A l.length c))(hpb:pb<w.heap.size)(hl:bw G w A l c)(h1:l.length≤1000)(hG:G w.heap.size) :
    Calls prog 142 #[pt g,pt pb] w (qrJ G g { m with live:=l } w):=by
 obtain⟨A0,A1,A2,c0,c1,c2,hk,ht⟩:=hN.ex;have HC:=QH (gy A c l w hl.at_ h1);have HK:=QH hk;have HT:=QH ht;have HZ:=QH (hl.at_.ints.mem);have HG:=QH hG;clear hN hk ht hl h1 hG;go_enter func142,ntmps142;go_wp2_with fail;refine HC.out.mono ?_;rintro e W1 cU;obtain rfl:=cU.1;have hb:=cU.2.2;have zX:=HK.out.below hb;have jX:=HK.out.lt;have hs:=cU.sl HZ.out (fun j=>G j∧j≠g) ⟨HG.out,by omega⟩;have ht1:=HT.out.below hb;have HN2:Hid (Nx G (W1.setCell ⟨g,0,none⟩ (.slice (some ⟨w.heap.size,0,none⟩) l.length l.length)) g { m with live:=l }) :=
  ⟨_,A1,A2,_,c1,c2,by have:=zX.qo 0 (.slice (some ⟨w.heap.size,0,none⟩) l.length l.length);simpa[zJ]using this,(um.mk (m:={ m with live:=l }) hs ht1.qc ht1.room ht1.qu ht1.base ht1.target ht1.next ht1.all).stay (ar fun j hj=>hj.2)⟩
 have qC:Hid (ib.qB (fun j=>j=g) w (W1.setCell ⟨g,0,none⟩ (.slice (some ⟨w.heap.size,0,none⟩) l.length l.length))):=(ib.qB.of_below hb).setCell _ _ (.inl rfl);have k0:=zX.cell 0;have f0:=zX.frozen 0;have zcr:=zX.lt;simp only[zJ,List.getElem?_toArray,List.getElem?_cons_zero]at k0;clear cU hb zX hs ht1 HC HK HT;go_wp2_with fail
 go_end0
 exact⟨rfl,HN2.out,qC.out⟩
def MkP (G:Nat→Prop)(R:Mt→Mt→Prop)(w:World)(e:Ending)(w':World):Prop:=∃f,e=.returned f∧(∀m m',R m m'→wJ G w' f m m')∧Below w.heap.size w w'
theorem qjD{G:Nat→Prop}{w:World}{A:Option Addr}{c:Nat}{l:List Int}(hl:bw G w A l c)(h1:l.length≤1000)(hG:∀j,w.heap.size≤j→G j) :
    Calls prog 64 #[.slice A l.length c] w (MkP G (fun m m'=>m'={ m with live:=l }) w):=by
 have HB:=QH ((Below.refl w.heap.size w).alloc (Nat.le_refl _) (.cells #[.slice A l.length c] 80));have HL:=QH hl;have HG:=QH hG;clear hl hG;go_enter func64,ntmps64;go_wp2_with fail;go_ret;refine⟨_,rfl,fun m m' hR=>?_,HB.out⟩;subst hR;refine⟨_,_,rfl,fun a W=>by go_simp,fun W g hb hg hN=>?_⟩;have hbb:=qa HB.out hb;have hlt:w.heap.size<(w.alloc (.cells #[.slice A l.length c] 80)).heap.size:=by simp
 exact qge hN ((hb.cell (p:=⟨w.heap.size,0,none⟩) hlt).trans (qvU _ _)) (Nat.lt_of_lt_of_le hlt hb.size) (HL.out.stay (wI.of_below hbb)) h1 (HG.out _ hbb.size)
def snA (a b:Nat)(B:Option Addr)(n:Nat):Array Value:=#[.int .u64 (a:Int),.int .u64 (b:Int),.slice B n n,.bool false]
def AdG (g:Nat)(A1 A:Option Addr)(n c1 c a b:Nat)(l:List Int)(S:Nat):Nat→Value→World→Prop
 | 0,v,_=>v=pt g
 | 1,v,_=>v=pt g
 | 2,v,_=>v=pt g
 | 3,v,_=>v=.pointer (some ⟨g,1,none⟩)
 | 4,v,_=>v=.slice A1 n c1
 | 5,v,_=>v=.int .i64 (n:Int)
 | 6,v,_=>v=.int .i64 (n:Int)
 | 7,v,_=>v=.slice A1 n n
 | 8,v,_=>v=.agg #[.int .u64 (a:Int),.int .u64 (b:Int)]
 | 9,v,_=>v=.slice A l.length c
 | 10,v,w=>∃x,v=.slice (some ⟨x,0,none⟩) l.length l.length∧qd w x 3 (qi l)∧S≤x
 | 11,v,w=>∃x,v=.agg (snA a b (some ⟨x,0,none⟩) l.length)∧qd w x 3 (qi l)∧S≤x
 | 12,v,w=>∃y x,v=.slice (some ⟨y,0,none⟩) 1 1∧qd w y 141 (snA a b (some ⟨x,0,none⟩) l.length)∧qd w x 3 (qi l)∧S≤x
 | _,_,_=>True
theorem qdm(g:Nat)(A1 A:Option Addr)(n c1 c a b:Nat)(l:List Int)(S:Nat)(i:Nat)(v:Value)(w w':World)(hi:i<13)(h:AdG g A1 A n c1 c a b l S i v w)(hb:Below w.heap.size w w'):AdG g A1 A n c1 c a b l S i v w':=by
 match i,hi,h with
 | 0,_,h | 1,_,h | 2,_,h | 3,_,h | 4,_,h | 5,_,h | 6,_,h | 7,_,h | 8,_,h | 9,_,h=>exact h
 | 10,_,⟨x,h1,h2,h3⟩=>exact⟨x,h1,h2.below hb,h3⟩
 | 11,_,⟨x,h1,h2,h3⟩=>exact⟨x,h1,h2.below hb,h3⟩
 | 12,_,⟨y,x,h1,h2,h3,h4⟩=>exact⟨y,x,h1,h2.below hb,h3.below hb,h4⟩
theorem qjE{G:Nat→Prop}{W0 w:World}{g pg pb:Nat}{m:Mt}{gd:Gd}{A:Option Addr}{c:Nat}{l:List Int}(hb:Below W0.heap.size W0 w)(hg:W0.heap.size≤g)(hN:Nx G w g m)(hp:qd W0 pg 38 #[.int .u64 (gd.1:Int),.int .u64 (gd.2:Int)])(hp2:qd W0 pb 80 #[.slice A l.length c])(hl:jv W0 A l c)(h1:l.length≤1000)(hgd:xF gd)(h20:m.qc.length≤100)(hG:∀j,W0.heap.size≤j→G j) :
    Calls prog 230 #[pt g,pt pg,pt pb] w (qrJ G g { m with qc:=m.qc++[⟨gd,l,false⟩] } w):=by
 obtain⟨i0,hi,hz0,hz1,hz2⟩:=info_parts qmr;obtain⟨A0,A1,A2,c0,c1,c2,hk,ht⟩:=hN.ex;obtain⟨xs,hm,hx,hrow⟩:=ht.qc.row;have HK:=QH hk;have HT:=QH ht;have HB:=QH hb;have HG:=QH hG;have HP:=QH (hp.below hb);have ij:=QH (hp2.below hb);have HL:=QH hl;have gJ:=QH hg;have HX:=QH hx;have HM:=QH hm;have qnB:=QH hrow;have HGD:=QH hgd;have HLEN:Hid ((zG xs).length=m.qc.length*4):=by unfold Hid;rw[yU,← hm,List.length_map]
 have fX:=QH ht.room;have hci:((m.qc.length:Nat):Int)≤(c1:Int):=by have:=ht.room.1;omega
 have k1:=hk.cell 1;have jX:=hk.lt;simp only[zJ,QA,QB,QC]at k1;clear hN hp hp2 hl hgd hG hk ht hb hg hx hm hrow;obtain⟨a,b⟩:=gd;go_enter func230,ntmps230;go_upto_region 1 with fail;obtain⟨n,hn⟩:=QE m.qc.length;have HN:=QH hn;rw[hn]at HLEN fX hci k1 h20 ⊢;have K1:=QH k1;clear hn k1;refine vA (by kernel_rfl) 13 [10,11,12,13,14,15,16,17,18,19,20,21,22] (by kernel_rfl) (AdG g A1 A n c1 c a b l w.heap.size) _ (pt g) rfl (by decide) (by kernel_rfl) (by kernel_rfl) (by kernel_rfl) (fun _ _ _ h=>h) (Or.inl ⟨by rfl,fun w=>by go_simp⟩) (fun _=>rfl) (qdm _ _ _ _ _ _ _ _ _ _) ?_ ?_
 ·intro i o vs ρ W q0v hop hρ hfn hb hG;have t0:ρ (.tmp 0)=pt g:=hρ.out 0 rfl;have t1:ρ (.tmp 1)=pt pg:=hρ.out 1 rfl;have t2:ρ (.tmp 2)=pt pb:=hρ.out 2 rfl;have t4:ρ (.tmp 4)=.int .i64 (n:Int):=hρ.out 4 rfl;have hc:=hρ.const;have s11:=hρ.at_ 11 1 rfl;have s12:=hρ.at_ 12 2 rfl;have tv:=hρ.at_ 13 3 rfl;have s14:=hρ.at_ 14 4 rfl;have s15:=hρ.at_ 15 5 rfl;have s16:=hρ.at_ 16 6 rfl;have s18:=hρ.at_ 18 8 rfl;have s19:=hρ.at_ 19 9 rfl;have s20:=hρ.at_ 20 10 rfl;have s21:=hρ.at_ 21 11 rfl;have k1:W.cell? ⟨g,1,none⟩=some (.slice A1 n c1):=(hb.cell (p:=⟨g,1,none⟩) jX).trans K1.out;have hpk:=HP.out.below hb;have hpl:=hpk.lt;have p0:=hpk.cell 0;have p1:=hpk.cell 1;have hqk:=ij.out.below hb;have lS:=hqk.lt;have q0:=hqk.cell 0;simp only[QA,QB,QC]at p0 p1 q0;rcases i with _|_|_|_|_|_|_|_|_|_|_|_|_|i;all_goals (first|omega|skip)
  all_goals simp only[QA,QB,QC,Option.some.injEq]at hop
  all_goals subst hop
  ·exact q9 (w':=W) (by unfold execOp;simp only[t0];go_simp) ⟨Below.refl _ _,rfl⟩
  ·exact q9 (w':=W) (by unfold execOp;simp only[t0];go_simp) ⟨Below.refl _ _,rfl⟩
  ·have g1:vs 1=_:=hG 1 (by kernel_rfl);exact q9 (w':=W) (by unfold execOp;simp only[s11,g1];go_simp) ⟨Below.refl _ _,rfl⟩
  ·have g2:vs 2=_:=hG 2 (by kernel_rfl);exact q9 (w':=W) (by unfold execOp;simp only[s12,g2];go_simp) ⟨Below.refl _ _,rfl⟩
  ·have g3:vs 3=_:=hG 3 (by kernel_rfl);exact q9 (w':=W) (by unfold execOp;simp only[tv,g3];go_simp) ⟨Below.refl _ _,rfl⟩
  ·exact q9 (w':=W) (by unfold execOp;simp only[t4];go_simp) ⟨Below.refl _ _,rfl⟩
  ·exact q9 (w':=W) (by unfold execOp;simp only[t4];go_simp) ⟨Below.refl _ _,rfl⟩
  ·have g4:vs 4=_:=hG 4 (by kernel_rfl);have g5:vs 5=_:=hG 5 (by kernel_rfl);have g6:vs 6=_:=hG 6 (by kernel_rfl);exact q9 (w':=W) (by unfold execOp;simp only[s14,g4,s15,g5,s16,g6];go_simp) ⟨Below.refl _ _,rfl⟩
  ·exact q9 (w':=W) (by unfold execOp;simp only[t1];go_simp) ⟨Below.refl _ _,rfl⟩
  ·exact q9 (w':=W) (by unfold execOp;simp only[t2];go_simp) ⟨Below.refl _ _,rfl⟩
  ·have g9:vs 9=_:=hG 9 (by kernel_rfl);refine qj (f:=98) (args:=#[.slice A l.length c]) (w':=W) (by unfold execOp;simp only[hc,hfn,s19,g9];go_simp) ((gy A c l W ((HL.out.below HB.out).below hb) h1).mono ?_);rintro e W' cU;exact⟨_,cU.1,cU.2.2,_,rfl,cU.2.1,hb.size⟩
  ·obtain⟨x,g10,h2,h3⟩:=hG 10 (by kernel_rfl);have g8:vs 8=_:=hG 8 (by kernel_rfl);exact q9 (w':=W) (by unfold snA execOp;simp only[s18,g8,s20,g10];go_simp) ⟨Below.refl _ _,x,rfl,h2,h3⟩
  ·obtain⟨x,g11,h2,h3⟩:=hG 11 (by kernel_rfl);have hb1:=(Below.refl _ W).alloc (Nat.le_refl _) (.cells (snA a b (some ⟨x,0,none⟩) l.length) 141);exact q9 (v:=.slice (some ⟨W.heap.size,0,none⟩) 1 1) (w':=W.alloc (.cells (snA a b (some ⟨x,0,none⟩) l.length) 141)) (by unfold snA at g11 ⊢;unfold execOp;simp only[s21,g11];go_simp) ⟨hb1,_,x,rfl,qd.new _ _ _,h2.below hb1,h3⟩
 ·intro vs W hb hG;have g0:vs 0=_:=hG 0 (by decide);have g7:vs 7=_:=hG 7 (by decide);obtain⟨y,x,g12,hy,hxk,hxS⟩:=hG 12 (by decide);have yy:=QH hb;have HCE:Hid (∀b,A1=some b→∀j u,(zG xs)[j]?=some u→W.cell? (b.add j)=some u):=fun q hq j u hu=>by
   obtain⟨b',o',e,h2,h3⟩:=qnB.out j u hu;obtain rfl:q=⟨b',o',none⟩:=Option.some.inj (hq.symm.trans e);rw[addr_add];exact(hb.cell (p:=⟨b',o'+j,none⟩) h2).trans h3
  have au:Hid (∀j u,(snA a b (some ⟨x,0,none⟩) l.length).toList[j]?=some u→W.cell? ((⟨y,0,none⟩:Addr).add j)=some u):=fun j u hu=>by
   rw[addr_add,Nat.zero_add,hy.cell j];simpa using hu
  have HXK:=QH hxk;have HXS:=QH hxS;have hA:A1=none→n=0:=fun e=>by have:=fX.out.2 e;omega
  have HA:=QH hA;simp only[qX,qK,if_true];rw[g0,g7,g12];generalize vs 1=z1;generalize vs 2=z2;generalize vs 3=z3;generalize vs 4=z4;generalize vs 5=z5;generalize vs 6=z6;generalize vs 8=z8;generalize vs 9=z9;generalize vs 10=z10;generalize vs 11=z11;clear hG g0 g7 g12 hb hy hxk hxS hA;simp only[Act.put,List.setIfInBounds_toArray,List.set_cons_succ,List.set_cons_zero];refine qM (i:=13) (by kernel_rfl) rfl rfl ?_;refine aq (.tmp 17) (.tmp 22) 94 rfl 141 i0 _ 4 48 underlying94 hi hz0 hz1 hz2 A1 n (zG xs) rfl HLEN.out HA.out HCE.out ⟨y,0,none⟩ 1 1 (snA a b (some ⟨x,0,none⟩) l.length).toList rfl (by rfl) au.out (by decide) (by unfold maxLen;omega) (by omega) ?_;intro cap cur w1 hb1 zX ht1 hc1 hc2 hsz;have hgW:=HK.out.below yy.out;have qrL:=hgW.below hb1;have hWs:=yy.out.size;have hne:W.heap.size≠g:=by omega
  have jy:ib.qB (fun j=>j=g) w (w1.setCell ⟨g,1,none⟩ (.slice (some ⟨W.heap.size,0,none⟩) (n+1) cap)) :=
   ((ib.qB.of_below (S:=fun j=>j=g) yy.out).trans (S':=fun _=>False) (ib.qB.of_below hb1) (fun _ h=>h.elim)).setCell _ _ (.inl rfl)
  have hst:wI (fun j=>G j∧j≠g) w (w1.setCell ⟨g,1,none⟩ (.slice (some ⟨W.heap.size,0,none⟩) (n+1) cap)):=wI.nG jy (fun j hj=>hj.2);have hk2:qd (w1.setCell ⟨g,1,none⟩ (.slice (some ⟨W.heap.size,0,none⟩) (n+1) cap)) W.heap.size 141 cur:=zX.of_block (qy _ _ _ _ _ hne);have hGW:G W.heap.size:=HG.out _ (by have:=HB.out.size;omega);have hxg:x≠g:=by have:=HXS.out;omega
  have hsx:bw (fun j=>G j∧j≠g) (w1.setCell ⟨g,1,none⟩ (.slice (some ⟨W.heap.size,0,none⟩) (n+1) cap)) (some ⟨x,0,none⟩) l l.length:=by
   refine⟨⟨qd.nums ((HXK.out.below hb1).of_block (qy _ _ _ _ _ hxg)) HL.out.ints.mem,Nat.le_refl _,fun h=>by cases h⟩,fun _ b o s e=>?_⟩;simp only[Option.some.injEq,Addr.mk.injEq]at e;rw[← e.1];exact⟨HG.out _ (by have:=HXS.out;have:=HB.out.size;omega),hxg⟩
  have hsn:=lR.qn9 (G:=fun j=>G j∧j≠g) (xs:=xs++[(⟨(a,b),l,false⟩,.slice (some ⟨x,0,none⟩) l.length l.length)]) ⟨hGW,hne⟩ hk2.lt (vR hk2 (n:=(n+1)*4) (by rw[ht1,eB,qiF];rfl)) (fun y hy=>by
   rcases List.mem_append.1 hy with h|h
   ·exact(HX.out y h).stay hst
   ·obtain rfl:y=_:=by simpa using h
    exact⟨_,_,rfl,hsx,HGD.out⟩)
  rw[List.map_append,HM.out]at hsn;have ht3:=HT.out.stay hst;have hkk:=qrL.qo 1 (.slice (some ⟨W.heap.size,0,none⟩) (n+1) cap);have HN2:Hid (Nx G (w1.setCell ⟨g,1,none⟩ (.slice (some ⟨W.heap.size,0,none⟩) (n+1) cap)) g { m with qc:=m.qc++[⟨(a,b),l,false⟩] }) :=
   ⟨A0,some ⟨W.heap.size,0,none⟩,A2,c0,cap,c2,by simpa[zJ,HN.out]using hkk,um.mk (m:={ m with qc:=m.qc++[⟨(a,b),l,false⟩] }) ht3.live hsn ⟨by rw[List.length_append,HN.out];exact hc1,fun e=>by cases e⟩ ht3.qu ht3.base ht3.target ht3.next ht3.all⟩
  have HBU:=QH jy;have f1:w1.frozen? ⟨g,1,none⟩=false:=qrL.frozen 1;obtain⟨z,hz⟩:∃z,w1.cell? ⟨g,1,none⟩=some z:=⟨_,qrL.cell 1⟩;clear hb1 zX ht1 hc1 hc2 hsz hgW qrL hWs jy hst hk2 hGW hsx hsn ht3 hkk HCE au qnB;go_simp;refine qM (i:=14) (by kernel_rfl) rfl rfl ?_;go_simp;refine qM (i:=15) (by kernel_rfl) rfl rfl ?_;go_simp;refine qM (i:=16) (by kernel_rfl) rfl rfl ?_;go_simp;refine⟨by kernel_rfl,?_⟩;go_wp2_with fail
  go_end0
  exact⟨rfl,HN2.out,HBU.out⟩
theorem qnD{G:Nat→Prop}{w:World}{gd:Gd}{A:Option Addr}{c:Nat}{l:List Int}(hl:jv w A l c)(h1:l.length≤1000)(hgd:xF gd)(hG:∀j,w.heap.size≤j→G j) :
    Calls prog 157 #[gv gd,.slice A l.length c] w (MkP G (fun m m'=>m.qc.length≤100∧m'={ m with qc:=m.qc++[⟨gd,l,false⟩] }) w):=by
 obtain⟨a,b⟩:=gd;have hb1:=(Below.refl w.heap.size w).alloc (Nat.le_refl _) (.cells #[.int .u64 (a:Int),.int .u64 (b:Int)] 38);have zX:=qd.new w 38 #[.int .u64 (a:Int),.int .u64 (b:Int)];obtain⟨W1,hW1⟩:=QE (w.alloc (.cells #[.int .u64 (a:Int),.int .u64 (b:Int)] 38));rw[hW1]at hb1 zX;have hb2:=(Below.refl W1.heap.size W1).alloc (Nat.le_refl _) (.cells #[.slice A l.length c] 80);have bA:=QH (zX.below hb2);have uR:=QH (qd.new W1 80 #[.slice A l.length c]);have HB:=QH (qa hb1 hb2);have HL:=QH hl;have HG:=QH hG;have HGD:=QH hgd;clear hl hG hgd hb1 zX hb2;show Calls _ _ #[.agg #[.int .u64 (a:Int),.int .u64 (b:Int)],.slice A l.length c] _ _;go_enter func157,ntmps157;go_wp2_with fail;try rw[hW1]
 go_ret;refine⟨_,rfl,fun m m' hR=>?_,HB.out⟩;obtain⟨h20,rfl⟩:=hR;exact⟨_,_,rfl,fun a W=>by go_simp,fun W g hb hg hN=>qjE hb hg hN bA.out uR.out (HL.out.below HB.out) h1 HGD.out h20 (fun j hj=>HG.out j (Nat.le_trans HB.out.size hj))⟩
end Go.Proofs.YtdpbdkacngaemaaGreatDoor.vt.pg
namespace Go.Proofs.YtdpbdkacngaemaaGreatDoor.vt.pg
open _root_.Go.Proofs.Tryz Go Go.RowKit ib mt mt.pg
theorem p9 (a b:Gd)(w:World):Calls prog 228 #[gv a,gv b] w (uE (above a b) w):=by
 have HR:Hid (decide (0<(if jx a.1 b.1≠0 then jx a.1 b.1 else jx a.2 b.2))=above a b):=(tu a b).symm;obtain⟨r,hr⟩:=QE (above a b);rw[hr]at HR ⊢;clear hr;obtain⟨a1,a2⟩:=a;obtain⟨b1,b2⟩:=b;dsimp only at HR;show Calls prog 228 #[.agg #[.int .u64 (a1:Int),.int .u64 (a2:Int)],.agg #[.int .u64 (b1:Int),.int .u64 (b2:Int)]] w _;have HC1:Hid (∀W,Calls prog 212 #[.int .u64 (a1:Int),.int .u64 (b1:Int)] W (same (.int .i64 (jx a1 b1)) W)):=fun W=>mM a1 b1 W;have HC2:Hid (∀W,Calls prog 212 #[.int .u64 (a2:Int),.int .u64 (b2:Int)] W (same (.int .i64 (jx a2 b2)) W)):=fun W=>mM a2 b2 W;have hz:∀z∈[jx a1 b1,jx a2 b2],qG z:=by
  intro z hz;simp only[List.mem_cons,List.not_mem_nil,or_false]at hz;rcases hz with rfl|rfl
  ·exact eD _ _
  ·exact eD _ _
 generalize jx a1 b1=x at *;generalize jx a2 b2=y at *;have HC3:Hid (∀W B,qL W (some ⟨B,0,none⟩) [x,y]→Calls prog 211 #[.slice (some ⟨B,0,none⟩) 2 2] W (same (.int .i64 (if x≠0 then x else y)) W)):=fun W B h=>qmu ⟨B,0,none⟩ 2 x y W h;generalize (if x≠0 then x else y)=z at *;have hb1:=(Below.refl w.heap.size w).alloc (Nat.le_refl _) (.cells #[.int .u64 (a1:Int),.int .u64 (a2:Int)] 38);have ha1:=qd.new w 38 #[.int .u64 (a1:Int),.int .u64 (a2:Int)];obtain⟨W1,hW1⟩:=QE (w.alloc (.cells #[.int .u64 (a1:Int),.int .u64 (a2:Int)] 38));rw[hW1]at hb1 ha1;have hbb:=(Below.refl _ W1).alloc (Nat.le_refl _) (.cells #[.int .u64 (b1:Int),.int .u64 (b2:Int)] 38);have HB:=QH (qa hb1 hbb);have mo:=QH (ha1.below hbb);have jw:=QH (qd.new W1 38 #[.int .u64 (b1:Int),.int .u64 (b2:Int)]);obtain⟨w0,hw0⟩:=QE (W1.alloc (.cells #[.int .u64 (b1:Int),.int .u64 (b2:Int)] 38));rw[hw0]at HB mo jw;obtain⟨g0,hg0⟩:=QE w.heap.size;obtain⟨g1,hg1⟩:=QE W1.heap.size;clear hb1 ha1 hbb;have HZ:=QH hz;clear hz;go_enter func228,ntmps228;go_wp2_with fail;try rw[hw0]
 try rw[hg0]
 try rw[hg1]
 rw[hg0]at mo;rw[hg1]at jw;clear hw0 hW1;have hz:=HZ.out;refine jm (by kernel_rfl) [5,6,7,8,9,10,11,12,13,14,15,16,17,4] (by kernel_rfl) (fun L vs W=>Below w0.heap.size w0 W∧∀i,L i=true→i<14→gO g0 g1 a1 a2 b1 b2 x y z i (vs i) W) ⟨(Below.refl _ _).drew,fun i hi=>by cases hi⟩ ?_ ?_ ?_
 ·intro i o L vs ρ W ho dc qw hρ hgd hI;obtain⟨hb,rK⟩:=hI;have hG:∀j,L j=true→gO g0 g1 a1 a2 b1 b2 x y z j (vs j) W:=fun j hj=>by
   by_cases dM:j<14
   ·exact rK j hj dM
   ·match j,dM with
    | j+14,_=>exact trivial
  have qfg:i<14:=(Array.getElem?_eq_some_iff.1 ho).1;have hc:=hρ.const;have hfn:=hρ.fn;have next:∀v W',Below W.heap.size W W'→gO g0 g1 a1 a2 b1 b2 x y z i v W'→Below w0.heap.size w0 W'∧∀j,qP L i j=true→j<14→gO g0 g1 a1 a2 b1 b2 x y z j (zE vs i v j) W':=fun v W' h1 h2=>by
   refine⟨qa hb h1,fun j hj dM=>?_⟩;by_cases gZ:j=i
   ·subst gZ;simpa[zE]using h2
   ·simp only[qP,if_neg gZ]at hj;simpa[zE,gZ]using qc1 g0 g1 a1 a2 b1 b2 x y z j _ W W' dM (rK j hj dM) h1
  have hA:=mo.out.below hb;have hB:=jw.out.below hb;have hlt:=hA.lt;have q4P:=hB.lt;have c0:=hA.cell 0;have c1:=hA.cell 1;have d0:=hB.cell 0;have d1:=hB.cell 1;simp only[QA,QB,QC]at c0 c1 d0 d1;rcases i with _|_|_|_|_|_|_|_|_|_|_|_|_|_|i;all_goals (first|omega|skip)
  all_goals simp only[QA,QB,QC,Option.some.injEq]at ho
  all_goals subst ho
  ·have o2:ρ (.tmp 2)=.pointer (some ⟨g0,0,none⟩):=hρ.out 2 rfl;exact q9 (w':=W) (by unfold execOp;simp only[o2,hc];go_simp) (next _ _ (Below.refl _ _) rfl)
  ·have g5:gO g0 g1 a1 a2 b1 b2 x y z 0 (vs 0) W:=hG 0 (qw 0 (by kernel_rfl));have s5:ρ (.tmp 5)=.pointer (some ⟨g0,0,none⟩):=(hρ.at_ 5 0 rfl).trans g5;exact q9 (w':=W) (by unfold execOp;simp only[s5,hc];go_simp) (next _ _ (Below.refl _ _) rfl)
  ·have o3:ρ (.tmp 3)=.pointer (some ⟨g1,0,none⟩):=hρ.out 3 rfl;exact q9 (w':=W) (by unfold execOp;simp only[o3,hc];go_simp) (next _ _ (Below.refl _ _) rfl)
  ·have g7:gO g0 g1 a1 a2 b1 b2 x y z 2 (vs 2) W:=hG 2 (qw 2 (by kernel_rfl));have s7:ρ (.tmp 7)=.pointer (some ⟨g1,0,none⟩):=(hρ.at_ 7 2 rfl).trans g7;exact q9 (w':=W) (by unfold execOp;simp only[s7,hc];go_simp) (next _ _ (Below.refl _ _) rfl)
  ·have g6:gO g0 g1 a1 a2 b1 b2 x y z 1 (vs 1) W:=hG 1 (qw 1 (by kernel_rfl));have s6:ρ (.tmp 6)=.int .u64 (a1:Int):=(hρ.at_ 6 1 rfl).trans g6;have g8:gO g0 g1 a1 a2 b1 b2 x y z 3 (vs 3) W:=hG 3 (qw 3 (by kernel_rfl));have s8:ρ (.tmp 8)=.int .u64 (b1:Int):=(hρ.at_ 8 3 rfl).trans g8;refine qj (f:=212) (args:=#[.int .u64 (a1:Int),.int .u64 (b1:Int)]) (w':=W) (by unfold execOp;simp only[hfn,s6,s8];go_simp) ((HC1.out W).mono ?_);rintro x W' ⟨rfl,rfl⟩;exact⟨_,rfl,next _ _ (Below.refl _ _) rfl⟩
  ·have o2:ρ (.tmp 2)=.pointer (some ⟨g0,0,none⟩):=hρ.out 2 rfl;exact q9 (w':=W) (by unfold execOp;simp only[o2,hc];go_simp) (next _ _ (Below.refl _ _) rfl)
  ·have g10:gO g0 g1 a1 a2 b1 b2 x y z 5 (vs 5) W:=hG 5 (qw 5 (by kernel_rfl));have s10:ρ (.tmp 10)=.pointer (some ⟨g0,1,none⟩):=(hρ.at_ 10 5 rfl).trans g10;exact q9 (w':=W) (by unfold execOp;simp only[s10,hc];go_simp) (next _ _ (Below.refl _ _) rfl)
  ·have o3:ρ (.tmp 3)=.pointer (some ⟨g1,0,none⟩):=hρ.out 3 rfl;exact q9 (w':=W) (by unfold execOp;simp only[o3,hc];go_simp) (next _ _ (Below.refl _ _) rfl)
  ·have g12:gO g0 g1 a1 a2 b1 b2 x y z 7 (vs 7) W:=hG 7 (qw 7 (by kernel_rfl));have s12:ρ (.tmp 12)=.pointer (some ⟨g1,1,none⟩):=(hρ.at_ 12 7 rfl).trans g12;exact q9 (w':=W) (by unfold execOp;simp only[s12,hc];go_simp) (next _ _ (Below.refl _ _) rfl)
  ·have g11:gO g0 g1 a1 a2 b1 b2 x y z 6 (vs 6) W:=hG 6 (qw 6 (by kernel_rfl));have s11:ρ (.tmp 11)=.int .u64 (a2:Int):=(hρ.at_ 11 6 rfl).trans g11;have g13:gO g0 g1 a1 a2 b1 b2 x y z 8 (vs 8) W:=hG 8 (qw 8 (by kernel_rfl));have tv:ρ (.tmp 13)=.int .u64 (b2:Int):=(hρ.at_ 13 8 rfl).trans g13;refine qj (f:=212) (args:=#[.int .u64 (a2:Int),.int .u64 (b2:Int)]) (w':=W) (by unfold execOp;simp only[hfn,s11,tv];go_simp) ((HC2.out W).mono ?_);rintro x W' ⟨rfl,rfl⟩;exact⟨_,rfl,next _ _ (Below.refl _ _) rfl⟩
  ·have g9:gO g0 g1 a1 a2 b1 b2 x y z 4 (vs 4) W:=hG 4 (qw 4 (by kernel_rfl));have s9:ρ (.tmp 9)=.int .i64 (x):=(hρ.at_ 9 4 rfl).trans g9;have g14:gO g0 g1 a1 a2 b1 b2 x y z 9 (vs 9) W:=hG 9 (qw 9 (by kernel_rfl));have s14:ρ (.tmp 14)=.int .i64 (y):=(hρ.at_ 14 9 rfl).trans g14;exact q9 (v:=.slice (some ⟨W.heap.size,0,none⟩) 2 2) (w':=W.alloc (.cells (qi [x,y]) 3)) (by unfold execOp;simp only[s9,s14,qi];go_simp) (next _ _ ((Below.refl _ W).alloc (Nat.le_refl _) _) ⟨W.heap.size,rfl,dF W _ hz⟩)
  ·obtain⟨B15,g15,qm1⟩:gO g0 g1 a1 a2 b1 b2 x y z 10 (vs 10) W:=hG 10 (qw 10 (by kernel_rfl));have s15:ρ (.tmp 15)=.slice (some ⟨B15,0,none⟩) 2 2:=(hρ.at_ 15 10 rfl).trans g15;refine qj (f:=211) (args:=#[.slice (some ⟨B15,0,none⟩) 2 2]) (w':=W) (by unfold execOp;simp only[hfn,s15];go_simp) ((HC3.out W B15 qm1).mono ?_);rintro x W' ⟨rfl,rfl⟩;exact⟨_,rfl,next _ _ (Below.refl _ _) rfl⟩
  ·have g16:gO g0 g1 a1 a2 b1 b2 x y z 11 (vs 11) W:=hG 11 (qw 11 (by kernel_rfl));have s16:ρ (.tmp 16)=.int .i64 z:=(hρ.at_ 16 11 rfl).trans g16;exact q9 (w':=W) (by unfold execOp;simp only[s16,hc];go_simp) (next _ _ (Below.refl _ _) rfl)
  ·have g17:gO g0 g1 a1 a2 b1 b2 x y z 12 (vs 12) W:=hG 12 (qw 12 (by kernel_rfl));have s17:ρ (.tmp 17)=.bool (decide (0<z)):=(hρ.at_ 17 12 rfl).trans g17;exact q9 (w':=W) (by unfold execOp;simp only[s17,hc];go_simp) (next _ _ (Below.refl _ _) rfl)
 ·intro i o L vs W j want ho dc qw hg hv hI;obtain⟨hb,rK⟩:=hI;have hG:∀j,L j=true→gO g0 g1 a1 a2 b1 b2 x y z j (vs j) W:=fun j hj=>by
   by_cases dM:j<14
   ·exact rK j hj dM
   ·match j,dM with
    | j+14,_=>exact trivial
  have qfg:i<14:=(Array.getElem?_eq_some_iff.1 ho).1;rcases i with _|_|_|_|_|_|_|_|_|_|_|_|_|_|i;all_goals (first|omega|skip)
  all_goals simp only[QA,QB,QC,Option.some.injEq]at ho
  all_goals subst ho
  all_goals simp only[reduceCtorEq,Option.some.injEq,Prod.mk.injEq]at hg
 ·intro vs W hI;have g7:vs 13=.bool (decide (0<z)):=hI.2 13 (by decide) (by decide);have hbW:=QH (qa HB.out hI.1);clear hI;go_wp2_with fail;refine bG 13 rfl (by decide +kernel) (by kernel_rfl) rfl g7 ⟨by rw[HR.out],hbW.out⟩
end Go.Proofs.YtdpbdkacngaemaaGreatDoor.vt.pg
namespace Go.Proofs.YtdpbdkacngaemaaGreatDoor.vt.pg
open _root_.Go.Proofs.Tryz Go Go.RowKit ib mt im sp
def qjF (G:Nat→Prop)(l:List Int)(w:World)(e:Ending)(w':World):Prop:=∃A c,e=.returned (.slice A l.length c)∧bw G w' A l c∧Below w.heap.size w w'
def qae (m:Mt)(n:Nat):List Int:=uP { m with qc:=m.qc.take n }
theorem qgf(m:Mt):qae m 0=List.replicate m.live.length 0:=rfl
theorem qjG{m:Mt}{k:Nat}(h:k<m.qc.length):qae m (k+1)=m.qc[k].qu:=by
 unfold qae uP;dsimp only;rw[List.take_succ_eq_append_getElem h,List.getLast?_concat]
theorem qjH(m:Mt):qae m m.qc.length=uP m:=by unfold qae;rw[List.take_length]
theorem qjI{m:Mt}(h:m.qc.length=0):qI m=(0,0):=by
 unfold qI;rw[List.length_eq_zero_iff.1 h];rfl
theorem qjJ{m:Mt}{k:Nat}(h:k<m.qc.length)(h1:k+1=m.qc.length):qI m=m.qc[k].g:=by
 unfold qI;rw[List.getLast?_eq_getElem?,show m.qc.length-1=k by omega,List.getElem?_eq_getElem h]
theorem xZ (w:World)(X:Array Value):∃W,w.alloc (.cells X 96)=W∧qd W w.heap.size 96 X∧Below w.heap.size w W :=
 ⟨_,rfl,qd.new _ _ _,(Below.refl _ _).alloc (Nat.le_refl _) _⟩
theorem qaf{w:World}{A0 A1 A2:Option Addr}{c0 c1 c2:Nat}{m:Mt}(hS:jN w A1 m.qc)(h20:m.qc.length≤1000) :
    Calls prog 227 #[.agg (zJ A0 A1 A2 c0 c1 c2 m)] w fun e w'=>e=.returned (gv (qI m))∧Below w.heap.size w w':=by
 obtain⟨W1,hW1,zX,hb1⟩:=xZ w (zJ A0 A1 A2 c0 c1 c2 m);have hb2:=(Below.refl _ W1).alloc (Nat.le_refl _) (.cells #[.int .u64 0,.int .u64 0] 38);have hr2:=qd.new W1 38 #[.int .u64 0,.int .u64 0];obtain⟨W2,hW2⟩:=QE (W1.alloc (.cells #[.int .u64 0,.int .u64 0] 38));rw[hW2]at hb2 hr2;have qC:=QH (qa hb1 hb2);have hk2:=zX.below hb2;have jO:=QH hr2;have HLE:Hid (w.heap.size<W1.heap.size):=zX.lt;have q1:=hk2.cell 1;have lS:=hk2.lt;simp only[zJ,QA,QB,QC]at q1;have HS:=QH (hS.below qC.out);have r0:=hr2.cell 0;have r1:=hr2.cell 1;have f0:=hr2.frozen 0;have f1:=hr2.frozen 1;have hrl:=hr2.lt;simp only[QA,QB,QC]at r0 r1;have xu:Hid (∀(a b:Nat) W,qd W W1.heap.size 38 #[.int .u64 (a:Int),.int .u64 (b:Int)]→(loadVar 38 ⟨W1.heap.size,0,none⟩).run prog W=.ok (.agg #[.int .u64 (a:Int),.int .u64 (b:Int)]) W):=fun a b W hW =>
  run_loadVar_row W W1.heap.size 38 38 _ (0,0) _ hW underlying38 rfl (by kernel_rfl)
 have dr:Hid (∀(a b:Nat),qd ((W2.setCell ⟨W1.heap.size,0,none⟩ (.int .u64 (a:Int))).setCell ⟨W1.heap.size,1,none⟩ (.int .u64 (b:Int))) W1.heap.size 38 #[.int .u64 (a:Int),.int .u64 (b:Int)]∧Below w.heap.size w ((W2.setCell ⟨W1.heap.size,0,none⟩ (.int .u64 (a:Int))).setCell ⟨W1.heap.size,1,none⟩ (.int .u64 (b:Int)))):=fun a b =>
  ⟨by have:=(hr2.qo 0 (.int .u64 (a:Int))).qo 1 (.int .u64 (b:Int));simpa using this,(qC.out.setCell (p:=⟨W1.heap.size,0,none⟩) (by have:=HLE.out;show w.heap.size≤W1.heap.size;omega) _).setCell (p:=⟨W1.heap.size,1,none⟩) (by have:=HLE.out;show w.heap.size≤W1.heap.size;omega) _⟩
 clear hS zX hb1 hb2 hr2 hk2;by_cases h0:m.qc.length=0
 ·have HG:=QH (qjI h0);have hz:((m.qc.length:Int) == 0)=true:=by rw[h0];rfl
  clear h0;unfold zJ at hW1 ⊢;go_enter func227,ntmps227;go_upto_region 1 with fail;try rw[hW1]
  try rw[hW2]
  clear hW1 hW2;go_wp2_with fail;refine bodyPost_ret (v:=.agg #[.int .u64 0,.int .u64 0]) (im.zh rfl _ _ _ ⟨W1.heap.size,0,none⟩ _ rfl (xu.out 0 0 _ (dr.out 0 0).1)) rfl ⟨by rw[HG.out];rfl,(dr.out 0 0).2⟩
 ·obtain⟨k,hk⟩:∃k,m.qc.length=k+1:=⟨m.qc.length-1,by omega⟩;have iV:k<m.qc.length:=by omega
  have HG:=QH (qjJ iV hk.symm);obtain⟨b,o,B,c,rfl,s2,s3,s4,_⟩:=HS.out k iV;generalize m.qc[k].g=gg at *;obtain⟨ga,gb⟩:=gg;dsimp only at s3 s4;have hw:IntKind.i64.wrap ((m.qc.length:Int)-1)=(k:Int):=by rw[IntWalk.i64_in _ (by omega)];omega
  have yr:(k:Int)<(m.qc.length:Int):=by omega
  have hk0:¬ (k:Int)<0:=by omega
  have hnz:((m.qc.length:Int) == 0)=false:=beq_false_of_ne (by omega);unfold zJ at hW1 ⊢;clear hk h0;go_enter func227,ntmps227;go_upto_region 1 with fail;try rw[hW1]
  try rw[hW2]
  clear hW1 hW2;go_wp2_with fail;refine bodyPost_ret (v:=.agg #[.int .u64 (ga:Int),.int .u64 (gb:Int)]) (im.zh rfl _ _ _ ⟨W1.heap.size,0,none⟩ _ rfl (xu.out ga gb _ (dr.out ga gb).1)) rfl ⟨by rw[HG.out];rfl,(dr.out ga gb).2⟩
theorem qgg{w:World}{A0 A1 A2:Option Addr}{c0 c1 c2:Nat}(m:Mt):Calls prog 97 #[.agg (zJ A0 A1 A2 c0 c1 c2 m)] w (uE (decide (m.tok.target=(0,0))) w):=by
 obtain⟨W1,hW1,zX,hb1⟩:=xZ w (zJ A0 A1 A2 c0 c1 c2 m);have q4:=zX.cell 4;have q5:=zX.cell 5;have lS:=zX.lt;simp only[zJ,QA,QB,QC]at q4 q5;have qT:=QH hb1;have HD:Hid (decide (m.tok.target=(0,0))=(((m.tok.target.1:Int) == 0)&&((m.tok.target.2:Int) == 0))):=by
  unfold Hid;have:(m.tok.target=(0,0))↔((m.tok.target.1:Int)=0∧(m.tok.target.2:Int)=0):=by
   constructor
   ·intro h;rw[h];exact⟨rfl,rfl⟩
   ·intro h;exact Prod.ext (by have:=h.1;omega) (by have:=h.2;omega)
  rw[Bool.eq_iff_iff];simp only[decide_eq_true_eq,Bool.and_eq_true,beq_iff_eq];exact this
 obtain⟨r,hr⟩:=QE (decide (m.tok.target=(0,0)));rw[hr]at HD ⊢;unfold zJ at hW1 ⊢;generalize (m.tok.target.1:Int)=x at *;generalize (m.tok.target.2:Int)=y at *;obtain⟨p1,hp1⟩:=QE (x == 0);obtain⟨p2,hp2⟩:=QE (y == 0);rw[hp1,hp2]at HD;clear zX hb1 hr;go_enter func97,ntmps97;go_upto_region 1 with fail;try rw[hW1]
 clear hW1;cases p1 <;> cases p2;all_goals
  go_wp2_with fail;go_ret;exact⟨by rw[HD.out];rfl,qT.out⟩
theorem qnE{G:Nat→Prop}{w:World}{A0 A1 A2:Option Addr}{c0 c1 c2:Nat}{m:Mt}(hS:lR G w A1 m.qc)(hsz:mtS m)(hG:∀j,w.heap.size≤j→G j)(n:Nat)(hn:n≤m.qc.length) :
    Calls prog 71 #[.agg (zJ A0 A1 A2 c0 c1 c2 m),.int .i64 (n:Int)] w (qjF G (qae m n) w):=by
 obtain⟨W1,hW1,zX,hb1⟩:=xZ w (zJ A0 A1 A2 c0 c1 c2 m);have q0:=zX.cell 0;have q1:=zX.cell 1;have lS:=zX.lt;simp only[zJ,QA,QB,QC]at q0 q1;have qT:=QH hb1;have HS:=QH (hS.stay (wI.of_below hb1));have HG:=QH hG;have HL:=QH hsz.live;clear hS hG zX hb1;rcases n with _|k
 ·rw[qgf];have hb2:=(Below.refl _ W1).alloc (Nat.le_refl _) (.cells (qi (List.replicate m.live.length 0)) 3);have hs2:=qvb W1 (List.replicate m.live.length 0) (fun z hz=>by rw[List.eq_of_mem_replicate hz];unfold qG;omega);have qC:=QH (qa qT.out hb2);have kT:Hid (bw G (W1.alloc (.cells (qi (List.replicate m.live.length 0)) 3)) (some ⟨W1.heap.size,0,none⟩) (List.replicate m.live.length 0) (List.replicate m.live.length (0:Int)).length):=⟨hs2,fun _ b o s e=>by
   simp only[Option.some.injEq,Addr.mk.injEq]at e;rw[← e.1];exact HG.out _ qT.out.size⟩
  have HW:=QH hW1;clear hW1 hb2 hs2;unfold zJ at HW ⊢;go_enter func71,ntmps71;go_upto_region 1 with fail;rw[HW.out];go_wp2_with (at_make;refine qh rfl (cE _ _ m.live.length rfl rfl rfl (by have:=HL.out;omega)) ?_);go_ret;exact⟨_,_,by simp,kT.out,qC.out⟩
 ·have iV:k<m.qc.length:=by omega
  rw[qjG iV];obtain⟨b,o,B,c,rfl,s2,_,_,s5,_,s7,_⟩:=HS.out.at_ k iV;generalize m.qc[k].qu=im at *;have HS7:=QH s7;have hw:IntKind.i64.wrap (((k+1:Nat):Int)-1)=(k:Int):=by have:=hsz.qc;rw[IntWalk.i64_in _ (by omega)];omega
  have yr:(k:Int)<(m.qc.length:Int):=by omega
  have hk0:¬ (k:Int)<0:=by omega
  have hnz:(((k+1:Nat):Int) == 0)=false:=beq_false_of_ne (by omega);have HW:=QH hW1;clear hW1 s7 hsz;obtain⟨n1,hn1⟩:=QE ((k+1:Nat):Int);rw[hn1]at hw hnz ⊢;clear hn1;unfold zJ at HW ⊢;go_enter func71,ntmps71;go_upto_region 1 with fail;rw[HW.out];go_wp2_with fail;go_ret;exact⟨_,_,rfl,HS7.out,qT.out⟩
end Go.Proofs.YtdpbdkacngaemaaGreatDoor.vt.pg
namespace Go.Proofs.YtdpbdkacngaemaaGreatDoor.ib
open _root_.Go.Proofs.Tryz Go Go.RowKit Go.ChangeShapes Go.WideShapes Go.Deep
def fx (w:World)(a:Option Addr)(zZ:List (List Int)):Prop :=
 ∀i (h:i<zZ.length),∃b o A c,a=some ⟨b,o,none⟩∧b<w.heap.size∧w.cell? ⟨b,o+i,none⟩=some (.slice A zZ[i].length c)∧qL w A zZ[i]∧zZ[i].length≤9223372036854775807
theorem fx.below{w w':World}{a:Option Addr}{zZ:List (List Int)}(h:fx w a zZ)(hb:Below w.heap.size w w'):fx w' a zZ:=by
 intro i hi;obtain⟨b,o,A,c,h1,h2,h3,h4,h5⟩:=h i hi;exact⟨b,o,A,c,h1,Nat.lt_of_lt_of_le h2 hb.size,by rw[hb.cell (p:=⟨b,o+i,none⟩) h2];exact h3,h4.below hb,h5⟩
section
variable {H:Type} {enc:TypeId × Value→H} {w:World} {held:Bool} {a:Option Addr} {l c:Nat} {d:DataW H} {pl:List MemPlace}
end
end Go.Proofs.YtdpbdkacngaemaaGreatDoor.ib
namespace Go.Proofs.YtdpbdkacngaemaaGreatDoor
open _root_.Go.Proofs.Tryz Go Go.RowKit
theorem ya {P:Program}{ops:Array Oper}{rest:List Oper}{o:Oper}{a:Act}{w:World}{Q:Exit→Act→World→Prop}(hgd:o.guard=none)(s x:Operand)(t:TypeId)
    (ho:o.op=.call { callee:=.builtin .append,args:=#[s,x],argTypes:=#[t,t] })
    (base:Nat) (e:TypeId) (i:TypeInfo) (z:Value) (size bytes:Nat) (ht:P.underlying t=some (.slice e)) (hi:P.info? e=some i) (hz:i.zero=some z)
    (hsize:i.size=size) (hby:i.bytes=bytes) (hzs:z.cells.size=size) (hsz:0<size)
    (v:Value) (n:Nat) (xs:List Value) (hs:a.eval s=v) (hown:w.ownsRow base e size v n xs)
    (ad:Addr) (m c:Nat) (news:List Value) (hx:a.eval x=.slice (some ad) m c) (hl:news.length=m*size) (hnews:∀j u,news[j]?=some u→w.cell? (ad.add j)=some u) (h1:∀u∈news,u.oneCell'=true)
    (h63:n+m≤maxLen) (hbytes:(n+m)*bytes≤140737488355328) (hbase:base≤w.heap.size)
    (h:∀v' w',w'.ownsRow base e size v' (n+m) (xs++news)→w.grownBy w' v.ownBlock→(v'.ownBlock=v.ownBlock∨v'.ownBlock=some w.heap.size)→wpList P ops Q rest (a.put o.dst v') w'):wpList P ops Q (o::rest) a w:=by
 refine wpList_plain hgd fun K hK=>?_;obtain⟨v',w',hrun,h2,h3,_,h5⟩:=run_append_own_at (P:=P) w base t o.type e i z size bytes ht hi hz hsize hby hzs hsz v n xs hown ad m c news hl hnews h1 h63 hbytes hbase;unfold Oper.wp;simp[execOp,ho,resolve,invoke,builtin,hs,hx,hrun,Result.andThen];exact hK _ _ (h v' w' h2 h3 h5)
end Go.Proofs.YtdpbdkacngaemaaGreatDoor
namespace Go.Proofs.YtdpbdkacngaemaaGreatDoor.vt.pg
open _root_.Go.Proofs.Tryz Go Go.RowKit ib mt im sp
theorem qvX:(prog.info? 80).map (fun i=>(i.zero,i.size,i.bytes))=some (some (.slice none 0 0),1,24):=by kernel_rfl
def qjK (w:World)(u:Value)(l:List Int):Prop:=∃B c,u=.slice B l.length c∧qL w B l∧l.length≤1000
theorem qjK.below{w w':World}{u:Value}{l:List Int}(h:qjK w u l)(hb:Below w.heap.size w w'):qjK w' u l:=by
 obtain⟨B,c,h1,h2,h3⟩:=h;exact⟨B,c,h1,h2.below hb,h3⟩
def IvL (w:World)(vs:List Value)(ls:List (List Int)):Prop:=vs.length=ls.length∧∀i (h:i<vs.length) (h':i<ls.length),qjK w vs[i] ls[i]
theorem IvL.below{w w':World}{vs:List Value}{ls:List (List Int)}(h:IvL w vs ls)(hb:Below w.heap.size w w'):IvL w' vs ls:=⟨h.1,fun i h1 h2=>(h.2 i h1 h2).below hb⟩
theorem IvL.snoc{w:World}{vs:List Value}{ls:List (List Int)}{u:Value}{l:List Int}(h:IvL w vs ls)(hu:qjK w u l):IvL w (vs++[u]) (ls++[l]):=by
 refine⟨by simp[h.1],fun i h1 h2=>?_⟩;by_cases hi:i<vs.length
 ·rw[List.getElem_append_left hi,List.getElem_append_left (by have:=h.1;omega)];exact h.2 i hi _
 ·have e:i=vs.length:=by simp at h1;omega
  subst e;rw[List.getElem_append_right (Nat.le_refl _),List.getElem_append_right (by have:=h.1;omega)];simpa[h.1]using hu
theorem IvL.ims{w:World}{B:Nat}{v:Value}{vs:List Value}{ls:List (List Int)}(h:IvL w vs ls)(ho:w.ownsRow B 80 1 v ls.length vs):∃A c,v=.slice A ls.length c∧fx w A ls:=by
 rcases ho.2 with⟨rfl,h0⟩|⟨g,cap,cur,rfl,hg,hh,hcc,hm,hcs,xg⟩
 ·exact⟨none,0,by rw[h0],fun i hi=>absurd hi (by omega)⟩
 ·refine⟨some ⟨g,0,none⟩,cap,rfl,fun i hi=>?_⟩;obtain⟨B',c',e,h1,h2⟩:=h.2 i (by have:=h.1;omega) hi;refine⟨g,0,B',c',rfl,(Array.getElem?_eq_some_iff.1 hh).1,?_,h1,by omega⟩;rw[Nat.zero_add,cell_of_row w g i cur 80 (0,0) hh];have hiv:i<vs.length:=by have:=h.1;omega
  have hu:vs[i]?=some (.slice B' ls[i].length c'):=by rw[List.getElem?_eq_getElem hiv,e]
  rw[← xg,List.getElem?_take]at hu;split at hu
  ·rw[← hu];simp
  ·cases hu
def ImR (B:Nat)(m:Mt)(w:World)(v i:Value)(wr:World):Prop :=
 ∃(k:Nat) (vs:List Value),k≤m.qc.length∧i=.int .i64 (k:Int)∧wr.ownsRow B 80 1 v (k+2) vs∧IvL w vs (m.live::m.tok.qu::(m.qc.take k).map (·.qu))∧Below w.heap.size w wr∧B≤wr.heap.size
def q00 (ls:List (List Int))(w:World)(e:Ending)(w':World):Prop:=∃A c,e=.returned (.slice A ls.length c)∧fx w' A ls∧Below w.heap.size w w'
theorem qgh{w:World}{A0 A1 A2:Option Addr}{c0 c1 c2:Nat}{m:Mt}(ht:MtL w A0 A1 A2 c0 c1 c2 m)(hsz:mtS m) :
    Calls prog 138 #[.agg (zJ A0 A1 A2 c0 c1 c2 m)] w (q00 (xz m) w):=by
 obtain⟨i0,hi,hz0,hz1,hz2⟩:=info_parts qvX;obtain⟨W1,hW1,zX,hb1⟩:=xZ w (zJ A0 A1 A2 c0 c1 c2 m);have hb2:=(Below.refl _ W1).alloc (Nat.le_refl _) (.cells #[.slice A0 m.live.length c0,.slice A2 m.tok.qu.length c2] 80);have hn2:=qd.new W1 80 #[.slice A0 m.live.length c0,.slice A2 m.tok.qu.length c2];obtain⟨W2,hW2⟩:=QE (W1.alloc (.cells #[.slice A0 m.live.length c0,.slice A2 m.tok.qu.length c2] 80));rw[hW2]at hb2 hn2;have hbb:=qa hb1 hb2;have ue:Hid (W2.ownsRow W1.heap.size 80 1 (.slice (some ⟨W1.heap.size,0,none⟩) 2 2) 2 [.slice A0 m.live.length c0,.slice A2 m.tok.qu.length c2]) :=
  ⟨rfl,.inr ⟨W1.heap.size,2,_,rfl,Nat.le_refl _,hn2,Nat.le_refl _,by unfold maxLen;omega,rfl,rfl⟩⟩
 have HI2:Hid (IvL w [.slice A0 m.live.length c0,.slice A2 m.tok.qu.length c2] [m.live,m.tok.qu]) :=
  (IvL.snoc (vs:=[.slice A0 m.live.length c0]) (ls:=[m.live]) ⟨rfl,fun i h1 h2=>by
   obtain rfl:i=0:=by simp at h1;exact h1
   exact⟨A0,c0,rfl,ht.live.ints,hsz.live⟩⟩ ⟨A2,c2,rfl,ht.qu.ints,hsz.qu⟩)
 have HS:=QH ht.qc;have qC:=QH hbb;have hk2:=zX.below hb2;have HL1:Hid (W1.heap.size≤W2.heap.size):=hb2.size;have HLW:Hid (w.heap.size≤W1.heap.size):=hb1.size;have tK:=QH hsz;have q0:=zX.cell 0;have q1:=hk2.cell 1;have q8:=zX.cell 8;have lS:=zX.lt;have zcu:=hk2.lt;have h20:=hsz.qc;simp only[zJ,QA,QB,QC]at q0 q1 q8;clear ht hsz zX hb1 hb2 hn2 hbb hk2;have HIM:Hid (xz m=m.live::m.tok.qu::m.qc.map (·.qu)):=rfl;unfold zJ at hW1 ⊢;go_enter func138,ntmps138;go_upto_region 1 with fail;try rw[hW1]
 clear hW1;go_upto_region 2 with fail;try rw[hW2]
 clear hW2 q0 q8 lS;go_wp2_with fail;go_loopw [3,15] (fun v i wr=>ImR W1.heap.size m w v i wr) (fun _ i _=>m.qc.length-(intOf i).toNat);case atStart=>exact⟨0,_,Nat.zero_le _,rfl,ue.out,HI2.out,qC.out,HL1.out⟩
 case round =>
  obtain⟨k,vs,hk,rfl,ho,hiv,hB,hLR⟩:=hrel;have HLR:=QH hLR;have HO:=QH ho;have HIV:=QH hiv;have HB:=QH hB;clear ho hiv hB;by_cases hlt:k<m.qc.length
  ·have yr:(k:Int)<(m.qc.length:Int):=by omega
   have hk0:¬ (k:Int)<0:=by omega
   obtain⟨b,o,B,c,hA,z1,z2,z3,z4,z5,s6,_⟩:=HS.out k hlt;have s1:=Nat.lt_of_lt_of_le z1 HB.out.size;have s2:=(HB.out.cell (p:=⟨b,o+k*4,none⟩) z1).trans z2;have s3:=(HB.out.cell (p:=⟨b,o+k*4+1,none⟩) z1).trans z3;have s4:=(HB.out.cell (p:=⟨b,o+k*4+2,none⟩) z1).trans z4;have s5:=(HB.out.cell (p:=⟨b,o+k*4+3,none⟩) z1).trans z5;clear z1 z2 z3 z4 z5;have ig:=QH s6;have ua:Hid ((m.qc.take (k+1)).map (·.qu)=(m.qc.take k).map (·.qu)++[m.qc[k].qu]):=by unfold Hid;rw[List.take_succ_eq_append_getElem hlt,List.map_append];rfl
   have HIL:Hid (m.qc[k].qu.length≤1000):=tK.out.dG _ (List.getElem_mem hlt);subst hA;obtain⟨im,vK⟩:=QE (m.qc[k].qu);obtain⟨gd,hgd⟩:=QE (m.qc[k].g);obtain⟨hd,hhd⟩:=QE (m.qc[k].hid);rw[vK]at ig ua HIL s4;rw[hgd]at s2 s3;rw[hhd]at s5;clear vK hgd hhd s6;have vq:=(Below.refl _ wr).alloc (Nat.le_refl _) (.cells #[.int .u64 (gd.1:Int),.int .u64 (gd.2:Int),.slice B im.length c,.bool hd] 141);obtain⟨W3,hW3⟩:=QE (wr.alloc (.cells #[.int .u64 (gd.1:Int),.int .u64 (gd.2:Int),.slice B im.length c,.bool hd] 141));have zy:=qd.new wr 141 #[.int .u64 (gd.1:Int),.int .u64 (gd.2:Int),.slice B im.length c,.bool hd];rw[hW3]at vq zy;have r2:=zy.cell 2;have hrl:=zy.lt;simp only[QA,QB,QC]at r2;have hby:=(Below.refl _ W3).alloc (Nat.le_refl _) (.cells #[.slice B im.length c] 80);have hbz:=qa vq hby;have HO4:Hid ((W3.alloc (.cells #[.slice B im.length c] 80)).ownsRow W1.heap.size 80 1 _ (k+2) vs):=zf HO.out (fun j hj=>hbz.block j (HO.out.lt j hj).2);have q50:Hid (qjK w (.slice B im.length c) im):=⟨B,c,rfl,ig.out.ints,HIL.out⟩;have zT:=QH (qa HB.out hbz);have HL4:Hid (W1.heap.size≤(W3.alloc (.cells #[.slice B im.length c] 80)).heap.size):=by have h1:=HO.out.2;have:=hbz.size;have:=HLR.out;unfold Hid;omega
   have au:Hid (∀j u,([.slice B im.length c]:List Value)[j]?=some u→(W3.alloc (.cells #[.slice B im.length c] 80)).cell? ((⟨W3.heap.size,0,none⟩:Addr).add j)=some u):=fun j u hu=>by
    rw[addr_add,Nat.zero_add,(qd.new W3 80 #[.slice B im.length c]).cell j];simpa using hu
   clear vq zy hby hbz;go_wp2_with (at_builtin;refine ya rfl (.tmp 19) (.tmp 22) 218 rfl W1.heap.size 80 i0 (.slice none 0 0) 1 24 underlying218 hi hz0 hz1 hz2 rfl (by decide) _ (k+2) vs rfl HO4.out ⟨W3.heap.size,0,none⟩ 1 1 [.slice B im.length c] rfl rfl au.out (by intro u hu;simp at hu;subst hu;rfl) (by unfold maxLen;omega) (by omega) (by have:=zT.out.size;have:=HL4.out;omega) ?_);intro v' w1 hown hgrow _;have jJ:Hid (Below w.heap.size w w1):=zT.out.grown hgrow zT.out.size (fun j hj=>Nat.le_trans HLW.out (HO4.out.lt j hj).1);have HO5:Hid (w1.ownsRow W1.heap.size 80 1 v' (k+1+2) (vs++[.slice B im.length c])):=by
    have:=hown;rw[show k+2+1=k+1+2 by omega]at this;exact this
   have q51:Hid (IvL w (vs++[.slice B im.length c]) (m.live::m.tok.qu::(m.qc.take (k+1)).map (·.qu))):=by
    rw[ua.out];exact HIV.out.snoc q50.out
   have HL5:Hid (W1.heap.size≤w1.heap.size):=Nat.le_trans HL4.out hgrow.size;clear hown hgrow;go_wp2_with fail;go_roundw;case rel=>exact⟨k+1,_,by omega,by go_num,HO5.out,q51.out,jJ.out,HL5.out⟩
   case measure=>simp[intOf];omega
  ·obtain rfl:k=m.qc.length:=by omega
   have yr:¬ (m.qc.length:Int)<(m.qc.length:Int):=by omega
   have hiv:=HIV.out;rw[List.take_length]at hiv;have vK:=(hiv.below HB.out).ims (B:=W1.heap.size) (by
    have:=HO.out;rw[show m.qc.length+2=(m.live::m.tok.qu::m.qc.map (·.qu)).length by simp]at this;exact this)
   obtain⟨A,c,hv,hx⟩:=vK;have HX:=QH hx;have HV:=QH hv;clear hiv hx hv;go_wp2_with fail;go_ret;exact⟨A,c,by rw[HV.out];rfl,HX.out,HB.out⟩
end Go.Proofs.YtdpbdkacngaemaaGreatDoor.vt.pg
namespace Go.Proofs.YtdpbdkacngaemaaGreatDoor
open _root_.Go.Proofs.Tryz Go.RowKit
def jf (w:World)(a:Option Addr)(ps:List (List UInt8)):Prop :=
 ∀i (h:i<ps.length),∃b o,a=some ⟨b,o,none⟩∧b<w.heap.size∧w.cell? ⟨b,o+i,none⟩=some (.string (str ps[i]))
def yx (ps:List (List UInt8)):List Value:=ps.map fun p=>Value.string (str p)
theorem pj (ps:List (List UInt8)):(yx ps).length=ps.length:=by simp[yx]
theorem fy (ps:List (List UInt8))(p:List UInt8):yx (ps++[p])=yx ps++[.string (str p)]:=by simp[yx]
theorem jf.below{w w':World}{a:Option Addr}{ps:List (List UInt8)}{B:Nat}(h:jf w a ps)(hb:Below B w w')(hB:w.heap.size≤B):jf w' a ps:=by
 intro i hi;obtain⟨b,o,rfl,hlt,hc⟩:=h i hi;exact⟨b,o,rfl,Nat.lt_of_lt_of_le hlt hb.size,by rw[hb.cell (p:=⟨b,o+i,none⟩) (Nat.lt_of_lt_of_le hlt hB)];exact hc⟩
theorem jf.nil(w:World)(a:Option Addr):jf w a []:=fun i h=>absurd h (by simp)
def zQ (w:World)(B:Nat)(v:Value)(ps:List (List UInt8)):Prop:=w.ownsRow B 9 1 v ps.length (yx ps)
theorem zQ.view{w:World}{B:Nat}{v:Value}{ps:List (List UInt8)}(h:zQ w B v ps) :
    ∃a c,v=.slice a ps.length c∧ps.length≤c∧c≤maxLen∧jf w a ps∧(a=none→ps=[])∧(∀x,a=some x→∃g,x=⟨g,0,none⟩∧B≤g∧g<w.heap.size):=by
 rcases h.2 with⟨rfl,h0⟩|⟨g,cap,cur,rfl,hg,hh,hc,hm,_,_⟩
 ·obtain rfl:ps=[]:=List.length_eq_zero_iff.1 h0;exact⟨none,0,rfl,Nat.le_refl _,by decide,jf.nil _ _,fun _=>rfl,fun x hx=>(by cases hx)⟩
 ·have hlt:g<w.heap.size:=(Array.getElem?_eq_some_iff.1 hh).1;refine⟨some ⟨g,0,none⟩,cap,rfl,hc,hm,?_,fun h=>(by cases h),fun x hx=>⟨g,(by cases hx;rfl),hg,hlt⟩⟩;intro i hi;refine⟨g,0,rfl,hlt,?_⟩;have:=World.ownsRow.cellAt h i (by omega);rw[Nat.zero_add,this];simp[yx,hi]
theorem pk (ps:List (List UInt8))(w:World):jf (w.alloc (.cells (yx ps).toArray 9)) (some ⟨w.heap.size,0,none⟩) ps:=by
 intro i h;refine⟨w.heap.size,0,rfl,by simp,?_⟩;simp[World.cell?,World.alloc,-World.alloc_eq,yx,h]
theorem qbs{w:World}{B C:Nat}{v:Value}{ps:List (List UInt8)}(h:zQ w B v ps)(hc:C≤B):zQ w C v ps:=by
 refine⟨h.1,?_⟩;rcases h.2 with hn|⟨g,cap,cur,hv,hb,rest⟩
 ·exact .inl hn
 ·exact .inr ⟨g,cap,cur,hv,Nat.le_trans hc hb,rest⟩
theorem bh {w w':World}{B:Nat}{v:Value}{ps:List (List UInt8)}(h:zQ w B v ps)(hb:Below w.heap.size w w'):zQ w' B v ps:=by
 refine⟨h.1,?_⟩;rcases h.2 with hn|⟨g,cap,cur,hv,hB,hg,rest⟩
 ·exact .inl hn
 ·exact .inr ⟨g,cap,cur,hv,hB,by rw[hb.block g (Array.getElem?_eq_some_iff.1 hg).1];exact hg,rest⟩
theorem fz (ps:List (List UInt8))(k:Nat)(h:k<ps.length):(ps.take (k+1)).flatten=(ps.take k).flatten++ps[k]:=by
 rw[List.take_succ_eq_append_getElem h,List.flatten_append];simp only[List.flatten_cons,List.flatten_nil,List.append_nil]
theorem iW (ps:List (List UInt8))(k:Nat):(ps.take k).flatten.length≤ps.flatten.length:=by
 have h:ps.flatten=(ps.take k).flatten++(ps.drop k).flatten:=by rw[← List.flatten_append,List.take_append_drop]
 rw[h];simp
def qrM (ps:List (List UInt8))(w:World)(i:Value)(wr:World):Prop :=
 ∃k:Nat,k≤ps.length∧i=.int .i64 (k:Int)∧Lib.IsBuilder 296 5 w.heap.size w.heap.size (Lib.byteCells (ps.take k).flatten) wr∧Below w.heap.size w wr
theorem po (a:Option Addr)(c:Nat)(ps:List (List UInt8))(w:World)(hc:jf w a ps)(hl:ps.length≤4611686018427387904)(hs:ps.flatten.length≤140737488355328) :
    Calls prog 178 #[.slice a ps.length c] w (sS (str ps.flatten) w):=by
 have h0:Lib.IsBuilder 296 5 w.heap.size w.heap.size [] (w.alloc (.cells #[.pointer none,.slice none 0 0] 296)):=Lib.fresh_isBuilder 296 5 w;have b0:Below w.heap.size w (w.alloc (.cells #[.pointer none,.slice none 0 0] 296)):=(Below.refl _ w).alloc (Nat.le_refl _) _;have HC:=QH hc;clear hc;go_enter func178,ntmps178;go_wp2;go_loopw [8] (fun i wr=>qrM ps w i wr) (fun i _=>ps.length-(intOf i).toNat);case atStart=>exact⟨0,Nat.zero_le _,rfl,by simpa[Lib.byteCells]using h0,b0⟩
 case round =>
  clear h0 b0;obtain⟨k,hk,rfl,hI,hB⟩:=hrel;by_cases hlt:k<ps.length
  ·obtain⟨b,o,rfl,hb,od⟩:=HC.out k hlt;have hcell:wr.cell? ⟨b,o+k,none⟩=some (.string (str ps[k])):=by
    rw[hB.cell (p:=⟨b,o+k,none⟩) hb];exact od
   have gY:=fz ps k hlt;have hfm:=iW ps (k+1);have hbp:=zC ps[k];have hsz:=qQ ps[k];have hlen:(Lib.byteCells (ps.take k).flatten).length+(str ps[k]).size≤140737488355328:=by
    rw[Lib.byteCells_length,hsz];rw[gY,List.length_append]at hfm;omega
   have Hfl:=QH gY;have Hbp:=QH hbp;clear gY hfm hbp od hsz;generalize str ps[k]=s at *;go_wp2_with (go_at_call 235;refine(Tryz.Builder_WriteString w.heap.size w.heap.size _ s _ hI hlen hB.size).mono ?_);rintro e W2 ⟨rfl,h2,b2⟩;have h2':Lib.IsBuilder 296 5 w.heap.size w.heap.size (Lib.byteCells (ps.take (k+1)).flatten) W2:=by
    rw[Lib.strCells_eq,← Lib.byteCells_append]at h2;rw[Hfl.out,← Hbp.out];exact Or.inr h2
   have b2':=hB.trans b2;clear h2 b2 hI hB;go_wp2;go_roundw;case rel=>exact⟨k+1,by omega,by go_num,h2',b2'⟩
   case measure=>simp[intOf];omega
  ·have dE:k=ps.length:=by omega
   subst dE;rw[List.take_length]at hI;go_wp2_with (go_at_call 237;refine(Tryz.Builder_String_any w.heap.size w.heap.size _ _ hI hB.size).mono ?_);rintro e W2 ⟨rfl,b2⟩;have b2':=hB.trans b2;clear b2 hI hB;go_wp2;go_ret;exact⟨rfl,b2'⟩
def qbt:Nat→Nat→List UInt8
 | 0,_=>[]
 | k+1,n=>qbt k (n/256)++[UInt8.ofNat (n%256)]
theorem qnF(n:Nat):qbt 2 n=mD n:=rfl
theorem qjL(n:Nat):qbt 4 n=be4 n:=by
 simp[qbt,be4,Nat.div_div_eq_div_mul]
def yt (D:List UInt8)(k:Nat):List Value:=List.replicate k (.int .u8 0)++Lib.byteCells (D.drop k)
def qrN (D:List UInt8)(w:World)(n i:Value)(wr:World):Prop :=
 ∃k m:Nat,i=.int .i64 ((k:Int)-1)∧n=.int .u32 (m:Int)∧m<4294967296∧qbt k m=D.take k∧k≤D.length ∧
  wr.ownsRow w.heap.size 5 1 (.slice (some ⟨w.heap.size,0,none⟩) D.length D.length) D.length (yt D k)∧Below w.heap.size w wr
theorem sF (D:List UInt8)(k:Nat)(h:k<D.length):(yt D (k+1)).set k (.int .u8 (D[k].toNat:Int))=yt D k:=by
 unfold yt;rw[List.replicate_succ',List.append_assoc,List.set_append_right _ _ (by simp),List.length_replicate,Nat.sub_self,List.drop_eq_getElem_cons h];rfl
theorem qjM(D:List UInt8)(m k:Nat)(hk:k<D.length)(h:qbt (k+1) m=D.take (k+1)) :
    qbt k (m/256)=D.take k∧D[k].toNat=m%256:=by
 have e:qbt k (m/256)++[UInt8.ofNat (m%256)]=D.take (k+1):=h;rw[List.take_succ_eq_append_getElem hk]at e;have e':=List.append_inj' e rfl;refine⟨e'.1,?_⟩;have:=e'.2;simp at this;rw[← this,kI _ (by omega)]
theorem fA (n:Nat)(D:List UInt8)(w:World)(hn:n<4294967296)(hl:D.length≤100)(hD:qbt D.length n=D) :
    Calls prog 175 #[.int .u32 (n:Int),.int .i64 (D.length:Int)] w (sS (str D) w):=by
 obtain⟨i0,hi,hz0,hz1,hz2⟩:=info_parts Tryz.ny;have hmk:=run_make (P:=prog) w 64 5 i0 (.int .u8 0) underlying64 hi hz0 .i64 .i64 (D.length:Int) (D.length:Int) (by omega) (by omega) (by rw[hz2];omega) (by omega);have qmb:(w.alloc (.cells (madeCells #[.int .u8 0] D.length) 5)).ownsRow w.heap.size 5 1 (.slice (some ⟨w.heap.size,0,none⟩) D.length D.length) D.length (yt D D.length):=by
  have:=World.ownsRow_lit (e:=5) (size:=1) (base:=w.heap.size) w (madeCells #[.int .u8 0] D.length) D.length (Nat.le_refl _) (by unfold maxLen;omega) (by simp[size_madeCells]);have e:(madeCells #[.int .u8 0] D.length).toList=yt D D.length:=by
   apply List.ext_getElem?;intro j;by_cases hj:j<D.length <;> simp[madeCells,yt,Lib.byteCells,hj,Nat.mod_one]
  rw[← e];exact this
 have hb0:Below w.heap.size w (w.alloc (.cells (madeCells #[.int .u8 0] D.length) 5)):=(Below.refl _ _).alloc (Nat.le_refl _) _;have HD:=QH hD;clear hD;rw[hz1]at hmk;clear hi hz0 hz1 hz2;go_enter func175,ntmps175;go_wp2;go_loopw [0,6] (fun n' i wr=>qrN D w n' i wr) (fun _ i _=>(intOf i+1).toNat);case atStart=>exact⟨D.length,n,rfl,rfl,hn,by rw[HD.out];simp,Nat.le_refl _,qmb,hb0⟩
 case round =>
  obtain⟨k,m,rfl,rfl,hm,hd,hk,hown,hb⟩:=hrel;cases k with
  | zero =>
   have hcv:=run_convert_bytes_back (P:=prog) wr 64 9 5 ⟨w.heap.size,0,none⟩ D.length D underlying64 underlying5 underlying9 (by
    intro j hj;have:=hown.cellAt j (by omega);rw[addr_add,Nat.zero_add,this];simp[yt,Lib.byteCells,List.getElem?_eq_getElem hj])
   have qyY:(convert 64 9 (.slice (some ⟨w.heap.size,0,none⟩) D.length D.length)).run prog wr=.ok (.string (str D)) wr:=hcv;clear hcv;go_wp2;go_ret;exact⟨rfl,hb⟩
  | succ k =>
   have hx:=hown.cellAt k (by omega);rw[show(yt D (k+1))[k]?=some (.int .u8 0)from by simp[yt,List.getElem?_append]]at hx;have hf:=hown.frozenAt k;have hs:=hown.stored k (.int .u8 ((D[k]'(by omega)).toNat:Int));rw[sF _ _ (by omega)]at hs;obtain⟨hs1,hs2⟩:=hs;obtain⟨hd',bC⟩:=qjM D m k (by omega) hd;have Hs1:=QH hs1;have Hs2:=QH hs2;have Hd:=QH hd';have Hl:=QH bC;clear hs1 hs2 hd' bC hd hown;go_wp2;have e:((m:Int)%256)=((D[k]'(by omega)).toNat:Int):=by rw[Hl.out];omega
   rw[e];exact⟨⟨k,m/256,rfl,rfl,by omega,Hd.out,by omega,Hs1.out,hb.grown Hs2.out (by have:=hb.size;omega) (fun j hj=>by cases hj;exact Nat.le_refl _)⟩,by simp[intOf]⟩
theorem qdn(n:Nat)(w:World)(hn:n<4294967296):Calls prog 175 #[.int .u32 (n:Int),.int .i64 2] w (sS (str (mD n)) w) :=
 fA n (mD n) w hn (by show 2≤100;decide) (qnF n)
theorem qbu(n:Nat)(w:World)(hn:n<4294967296):Calls prog 175 #[.int .u32 (n:Int),.int .i64 4] w (sS (str (be4 n)) w) :=
 fA n (be4 n) w hn (by show 4≤100;decide) (qjL n)
def qhV (r:Option (List UInt8))(w:World)(e:Ending)(w':World):Prop :=
 e=.returned (.tuple #[.string (str (r.getD [])),.bool r.isSome])∧Below w.heap.size w w'
theorem qbv(n:Nat)(h:n<9223372036854775808):IntKind.i64.wrap (n:Int)=(n:Int):=by
 have e:(n:Int)%2 ^ 64=n:=Int.emod_eq_of_lt (by omega) (by omega);simp only[IntKind.wrap,IntKind.bits,IntKind.signed,e];rw[if_neg];simp;omega
theorem qnG(a b:Nat)(ha:a<256)(hb:b<256):bits .or .i64 ((a:Int)*256) (b:Int)=((256*a+b:Nat):Int):=by
 have e:((a:Int)*256)=((a*256:Nat):Int):=by omega
 rw[e];show IntKind.i64.wrap ((BitVec.ofInt 64 ((a*256:Nat):Int) ||| BitVec.ofInt 64 (b:Int)).toNat:Int)=_;rw[BitVec.toNat_or,ofInt_u64 _ (by omega),ofInt_u64 b (by omega)];have e2:a*256 ||| b=256*a+b:=by
  rw[show a*256=a <<< 8 from by rw[Nat.shiftLeft_eq],← Nat.shiftLeft_add_eq_or_of_lt (by omega),Nat.shiftLeft_eq];omega
 rw[e2];exact qbv _ (by omega)
theorem qbw(s:ByteArray)(w:World)(h6:s.size<6) :
    Calls prog 198 #[.string s] w (qhV (sx (bl s)) w):=by
 rw[qfJ (bl s) (by rw[zn];exact h6)];go_enter func198,ntmps198;go_wp2;go_ret2;exact⟨rfl,Below.refl _ _⟩
theorem qdo(s:ByteArray)(w:World)(hs:s.size≤140737488355328)(h6:6≤s.size) :
    Calls prog 198 #[.string s] w (qhV (sx (bl s)) w):=by
 have hi:=qhM (bl s) (by rw[zn];exact h6);have h0:=(s[0]'(by omega)).toNat_lt;have h1:=(s[1]'(by omega)).toNat_lt;have qnH:=qnG _ _ h0 h1;obtain⟨n,hn⟩:∃n:Nat,n=256*(s[0]'(by omega)).toNat+(s[1]'(by omega)).toNat:=⟨_,rfl⟩;have e0:(bl s)[0]'(by rw[zn];omega)=s[0]'(by omega):=rfl;have e1:(bl s)[1]'(by rw[zn];omega)=s[1]'(by omega):=rfl;rw[e0,e1,← hn,zn]at hi;rw[← hn]at qnH;have w0:wrap64 ((s[0]'(by omega)).toNat:Int)=((s[0]'(by omega)).toNat:Int):=by unfold wrap64;omega
 have w1:wrap64 ((s[1]'(by omega)).toNat:Int)=((s[1]'(by omega)).toNat:Int):=by unfold wrap64;omega
 have w2:wrap64 (((s[0]'(by omega)).toNat:Int)*256)=((s[0]'(by omega)).toNat:Int)*256:=by unfold wrap64;omega
 have hw:bits .or .i64 (wrap64 (wrap64 ((s[0]'(by omega)).toNat:Int)*256)) (wrap64 ((s[1]'(by omega)).toNat:Int))=(n:Int):=by rw[w0,w1,w2];exact qnH
 have Hw:=QH hw;clear qnH w0 w1 w2 hw;have hnl:n<65536:=by omega
 have j0:0<s.size:=by omega
 have j1:1<s.size:=by omega
 have i0:(0:Int)<(s.size:Int):=by omega
 have i1:(1:Int)<(s.size:Int):=by omega
 have Hi:=QH hi;clear hi hn e0 e1 h0 h1;go_enter func198,ntmps198;go_wp2;go_quiet (fail);rw[Hw.out];have hz:(s.extract 6 s.size).size=s.size-6:=by simp
 have hx:bl (s.extract 6 s.size)=(bl s).drop 6:=qhw s 6;have Hx:=QH hx;clear hx;generalize s.extract 6 s.size=t at *;by_cases hlt:s.size-6<n
 ·have hc:(t.size:Int)<(n:Int):=by omega
  go_wp2;go_ret2;exact⟨by rw[Hi.out,if_pos hlt];rfl,below_drewN (Below.refl _ _) _⟩
 ·have hc:¬ (t.size:Int)<(n:Int):=by omega
  go_wp2;go_ret2;refine⟨?_,below_drewN (Below.refl _ _) _⟩;rw[Hi.out,if_neg hlt];have:t.extract 0 n=str (((bl s).drop 6).take n):=by rw[← Hx.out,← qq9,iq]
  rw[this];rfl
theorem pq (s:ByteArray)(w:World)(hs:s.size≤140737488355328) :
    Calls prog 198 #[.string s] w (qhV (sx (bl s)) w):=by
 by_cases h:s.size<6
 ·exact qbw s w h
 ·exact qdo s w hs (by omega)
theorem qgi(w:World)(x:ByteArray) :
    (Builtin.copy_ #[64,9] 3 #[.slice (some ⟨w.heap.size,0,none⟩) 32 32,.string x]).run prog (w.alloc (.cells #[Value.int IntKind.u8 0,Value.int IntKind.u8 0,Value.int IntKind.u8 0,Value.int IntKind.u8 0,Value.int IntKind.u8 0,Value.int IntKind.u8 0,Value.int IntKind.u8 0,Value.int IntKind.u8 0,Value.int IntKind.u8 0,Value.int IntKind.u8 0,Value.int IntKind.u8 0,Value.int IntKind.u8 0,Value.int IntKind.u8 0,Value.int IntKind.u8 0,Value.int IntKind.u8 0,Value.int IntKind.u8 0,Value.int IntKind.u8 0,Value.int IntKind.u8 0,Value.int IntKind.u8 0,Value.int IntKind.u8 0,Value.int IntKind.u8 0,Value.int IntKind.u8 0,Value.int IntKind.u8 0,Value.int IntKind.u8 0,Value.int IntKind.u8 0,Value.int IntKind.u8 0,Value.int IntKind.u8 0,Value.int IntKind.u8 0,Value.int IntKind.u8 0,Value.int IntKind.u8 0,Value.int IntKind.u8 0,Value.int IntKind.u8 0] 145)) =
     .ok (.int .i64 ((min x.size 32:Nat):Int)) (w.alloc (.cells (Lib.byteCells (pad ((bl x).take 32))).toArray 145)):=by
 obtain⟨i0,hi,hz0,hz1,hz2⟩:=info_parts Tryz.ny;have hlen:(Lib.byteCells ((bl x).take 32)).length=min x.size 32:=by rw[Lib.byteCells_length,List.length_take,zn,Nat.min_comm]
 have hst:=run_storeCells_at prog w.heap.size 0 145 (Lib.byteCells ((bl x).take 32)) 0 #[Value.int IntKind.u8 0,Value.int IntKind.u8 0,Value.int IntKind.u8 0,Value.int IntKind.u8 0,Value.int IntKind.u8 0,Value.int IntKind.u8 0,Value.int IntKind.u8 0,Value.int IntKind.u8 0,Value.int IntKind.u8 0,Value.int IntKind.u8 0,Value.int IntKind.u8 0,Value.int IntKind.u8 0,Value.int IntKind.u8 0,Value.int IntKind.u8 0,Value.int IntKind.u8 0,Value.int IntKind.u8 0,Value.int IntKind.u8 0,Value.int IntKind.u8 0,Value.int IntKind.u8 0,Value.int IntKind.u8 0,Value.int IntKind.u8 0,Value.int IntKind.u8 0,Value.int IntKind.u8 0,Value.int IntKind.u8 0,Value.int IntKind.u8 0,Value.int IntKind.u8 0,Value.int IntKind.u8 0,Value.int IntKind.u8 0,Value.int IntKind.u8 0,Value.int IntKind.u8 0,Value.int IntKind.u8 0,Value.int IntKind.u8 0] (w.alloc (.cells #[Value.int IntKind.u8 0,Value.int IntKind.u8 0,Value.int IntKind.u8 0,Value.int IntKind.u8 0,Value.int IntKind.u8 0,Value.int IntKind.u8 0,Value.int IntKind.u8 0,Value.int IntKind.u8 0,Value.int IntKind.u8 0,Value.int IntKind.u8 0,Value.int IntKind.u8 0,Value.int IntKind.u8 0,Value.int IntKind.u8 0,Value.int IntKind.u8 0,Value.int IntKind.u8 0,Value.int IntKind.u8 0,Value.int IntKind.u8 0,Value.int IntKind.u8 0,Value.int IntKind.u8 0,Value.int IntKind.u8 0,Value.int IntKind.u8 0,Value.int IntKind.u8 0,Value.int IntKind.u8 0,Value.int IntKind.u8 0,Value.int IntKind.u8 0,Value.int IntKind.u8 0,Value.int IntKind.u8 0,Value.int IntKind.u8 0,Value.int IntKind.u8 0,Value.int IntKind.u8 0,Value.int IntKind.u8 0,Value.int IntKind.u8 0] 145)) (heap_alloc_new w _) (by rw[hlen];simp;omega) (Lib.byteCells_one _);rw[World.setRow_alloc_new,hlen]at hst;have hrow:(List.take (0+0) (#[Value.int IntKind.u8 0,Value.int IntKind.u8 0,Value.int IntKind.u8 0,Value.int IntKind.u8 0,Value.int IntKind.u8 0,Value.int IntKind.u8 0,Value.int IntKind.u8 0,Value.int IntKind.u8 0,Value.int IntKind.u8 0,Value.int IntKind.u8 0,Value.int IntKind.u8 0,Value.int IntKind.u8 0,Value.int IntKind.u8 0,Value.int IntKind.u8 0,Value.int IntKind.u8 0,Value.int IntKind.u8 0,Value.int IntKind.u8 0,Value.int IntKind.u8 0,Value.int IntKind.u8 0,Value.int IntKind.u8 0,Value.int IntKind.u8 0,Value.int IntKind.u8 0,Value.int IntKind.u8 0,Value.int IntKind.u8 0,Value.int IntKind.u8 0,Value.int IntKind.u8 0,Value.int IntKind.u8 0,Value.int IntKind.u8 0,Value.int IntKind.u8 0,Value.int IntKind.u8 0,Value.int IntKind.u8 0,Value.int IntKind.u8 0]:Array Value).toList++Lib.byteCells ((bl x).take 32)++List.drop (0+0+min x.size 32) (#[Value.int IntKind.u8 0,Value.int IntKind.u8 0,Value.int IntKind.u8 0,Value.int IntKind.u8 0,Value.int IntKind.u8 0,Value.int IntKind.u8 0,Value.int IntKind.u8 0,Value.int IntKind.u8 0,Value.int IntKind.u8 0,Value.int IntKind.u8 0,Value.int IntKind.u8 0,Value.int IntKind.u8 0,Value.int IntKind.u8 0,Value.int IntKind.u8 0,Value.int IntKind.u8 0,Value.int IntKind.u8 0,Value.int IntKind.u8 0,Value.int IntKind.u8 0,Value.int IntKind.u8 0,Value.int IntKind.u8 0,Value.int IntKind.u8 0,Value.int IntKind.u8 0,Value.int IntKind.u8 0,Value.int IntKind.u8 0,Value.int IntKind.u8 0,Value.int IntKind.u8 0,Value.int IntKind.u8 0,Value.int IntKind.u8 0,Value.int IntKind.u8 0,Value.int IntKind.u8 0,Value.int IntKind.u8 0,Value.int IntKind.u8 0]:Array Value).toList)=Lib.byteCells (pad ((bl x).take 32)):=by
  have hz:(#[Value.int IntKind.u8 0,Value.int IntKind.u8 0,Value.int IntKind.u8 0,Value.int IntKind.u8 0,Value.int IntKind.u8 0,Value.int IntKind.u8 0,Value.int IntKind.u8 0,Value.int IntKind.u8 0,Value.int IntKind.u8 0,Value.int IntKind.u8 0,Value.int IntKind.u8 0,Value.int IntKind.u8 0,Value.int IntKind.u8 0,Value.int IntKind.u8 0,Value.int IntKind.u8 0,Value.int IntKind.u8 0,Value.int IntKind.u8 0,Value.int IntKind.u8 0,Value.int IntKind.u8 0,Value.int IntKind.u8 0,Value.int IntKind.u8 0,Value.int IntKind.u8 0,Value.int IntKind.u8 0,Value.int IntKind.u8 0,Value.int IntKind.u8 0,Value.int IntKind.u8 0,Value.int IntKind.u8 0,Value.int IntKind.u8 0,Value.int IntKind.u8 0,Value.int IntKind.u8 0,Value.int IntKind.u8 0,Value.int IntKind.u8 0]:Array Value).toList=List.replicate 32 (Value.int IntKind.u8 0):=rfl;rw[hz,List.drop_replicate];simp[pad,Lib.byteCells,zn,Nat.min_comm]
 rw[hrow]at hst;have iH:List.take (x.size.min 32) (List.map (fun b:UInt8=>Value.int IntKind.u8 (b.toNat:Int)) x.data.toList)=Lib.byteCells ((bl x).take 32):=by
  unfold Lib.byteCells bl;rw[← List.map_take]
  congr 1
  show List.take (min x.size 32) x.data.toList=_;rw[show x.size=x.data.toList.length from(zn x).symm,Nat.min_comm,← List.take_take,List.take_length]
 simp[Builtin.copy_,run_underlying underlying64,Builtin.lenOf,Builtin.firstCells,sizeOf,typeInfo,hi];rw[iH,hst];simp[Result.andThen];rfl
def qrO (f:List UInt8)(w:World)(v left:Value)(wr:World):Prop :=
 ∃k:Nat,left=.string (str (f.drop (32*k)))∧32*k<f.length+32∧zQ wr w.heap.size v (wC k f)∧Below w.heap.size w wr
def qvZ (ps:List (List UInt8))(w:World)(e:Ending)(w':World):Prop :=
 ∃v,e=.returned v∧zQ w' w.heap.size v ps∧Below w.heap.size w w'
theorem qjN(w:World)(P:List UInt8)(h:P.length=32) :
    (convert 64 9 (.slice (some ⟨w.heap.size,0,none⟩) 32 32)).run prog (w.alloc (.cells (Lib.byteCells P).toArray 145))=.ok (.string (str P)) (w.alloc (.cells (Lib.byteCells P).toArray 145)):=by
 have:=run_convert_bytes_back (P:=prog) (w.alloc (.cells (Lib.byteCells P).toArray 145)) 64 9 5 ⟨w.heap.size,0,none⟩ 32 P underlying64 underlying5 underlying9 (by
  intro j hj;rw[addr_add,Nat.zero_add];simp[World.cell?,World.alloc,-World.alloc_eq,Lib.byteCells,hj])
 rw[h]at this;exact this
theorem qrP{wr:World}{B:Nat}{v:Value}{ps:List (List UInt8)}(h:zQ wr B v ps)(A:Array Value)(p:List UInt8) :
    ((wr.alloc (.cells A 145)).alloc (.cells #[.string (str p)] 9)).ownsRow B 9 1 v ps.length (yx ps) :=
 World.ownsRow.alloc (World.ownsRow.alloc h (.cells A 145)) (.cells #[.string (str p)] 9)
theorem qjO(w:World)(o:Obj)(p:List UInt8) :
    ∀j u,([Value.string (str p)]:List Value)[j]?=some u→((w.alloc o).alloc (.cells #[.string (str p)] 9)).cell? ((⟨w.heap.size+1,0,none⟩:Addr).add j)=some u:=by
 intro j u hj
 match j,hj with
 | 0,hj =>
  simp at hj;subst hj;obtain⟨b,q,he,_,hc⟩:=pk [p] (w.alloc o) 0 (by simp);rw[addr_add];simp only[Option.some.injEq,Addr.mk.injEq,and_true]at he;obtain⟨h1,h2⟩:=he;have hsz:(w.alloc o).heap.size=w.heap.size+1:=by simp
  rw[← h1,← h2,hsz]at hc;exact hc
theorem qag{w:World}{B:Nat}{v:Value}{ps:List (List UInt8)}{p:List UInt8}{k:Nat}(hl:ps.length=k)(h:w.ownsRow B 9 1 v (k+1) (yx ps++[.string (str p)])):zQ w B v (ps++[p]):=by
 unfold zQ;rw[fy,List.length_append,hl];exact h
theorem mX (f:List UInt8)(w:World)(hs:f.length≤1000000) :
    Calls prog 177 #[.string (str f)] w (qvZ (wC ((f.length+31)/32) f) w):=by
 obtain⟨i0,hi,hz0,hz1,hz2⟩:=info_parts Tryz.qlY;have hd0:str (f.drop (32*0))=str f:=by simp
 have Hd0:=QH hd0;clear hd0;go_enter func177,ntmps177;go_wp2;go_loopw [3,4] (fun v left wr=>qrO f w v left wr) (fun _ left _=>match left with | .string x=>x.size|_=>0);case atStart=>exact⟨0,by rw[Hd0.out],by omega,World.ownsRow_nil _ _ _ _,Below.refl _ _⟩
 case round =>
  obtain⟨k,rfl,hk,hown,hB⟩:=hrel;by_cases hlt:32*k<f.length
  ·have hz:=qQ (f.drop (32*k));rw[List.length_drop]at hz;have hq:(str (f.drop (32*k))).toList.isEmpty=false:=by
    rw[aK,zC,List.isEmpty_eq_false_iff];intro h;have:=congrArg List.length h;simp at this;omega
   have cU:=qgi wr (str (f.drop (32*k)));have hcv:=qjN wr (pad (uM f k)) (ot _ (gQ _ _));have qnI:(bl (str (f.drop (32*k)))).take 32=uM f k:=by rw[zC];rfl
   rw[qnI]at cU;have qtS:(str (f.drop (32*k))).extract (min (str (f.drop (32*k))).size 32) (str (f.drop (32*k))).size=str (f.drop (32*(k+1))):=by
    rw[← iq (ByteArray.extract _ _ _),qhw,zC,List.drop_drop,hz]
    congr 1
    by_cases h:f.length-32*k≤32
    ·rw[Nat.min_eq_left h,List.drop_of_length_le (by omega),List.drop_of_length_le (by omega)]
    ·rw[Nat.min_eq_right (by omega)];rw[show 32*(k+1)=32*k+32 from by omega]
   have qtT:=qfH k f;have hlen:=qbe k f;have hvl:=pj (wC k f);have qtU:(str (f.drop (32*(k+1)))).size<(str (f.drop (32*k))).size:=by rw[hz,qQ,List.length_drop];omega
   have hxs:0<(str (f.drop (32*k))).size:=by omega
   have Hz:=QH hz;clear hz;have qtV:=QH qtS;have q01:=QH qtT;have q02:=QH qtU;clear qtS qtT qtU qnI;generalize str (f.drop (32*k))=x at *;generalize pad (uM f k)=p at *;generalize (Lib.byteCells p).toArray=A at *;have hown2:=qrP hown A p;rw[hlen]at hown2;have hB2:=zR (zR hB (.cells A 145)) (.cells #[.string (str p)] 9);have qtW:=QH hown2;have hnews:=qjO wr (.cells A 145) p;have h1c:∀u∈([Value.string (str p)]:List Value),u.oneCell'=true:=by
    intro u hu;simp at hu;subst hu;rfl
   have q03:=QH hnews;have H1c:=QH h1c;have q04:=hB2.size;clear hnews h1c hown2 hown hB;go_wp2_with (at_builtin;refine wpList_append_own _ rfl (.tmp 13) (.tmp 16) 57 rfl w.heap.size 9 i0 (.string ByteArray.empty) 1 16 underlying57 hi hz0 hz1 hz2 rfl (by decide) _ k _ rfl qtW.out ⟨wr.heap.size+1,0,none⟩ 1 1 [.string (str p)] rfl rfl q03.out H1c.out ?_ ?_ q04 ?_)
   ·unfold maxLen;omega
   ·omega
   ·intro v' w1 hown1 hgrow _;have hn1:=qag hlen hown1;have hb1:=hB2.grown hgrow q04 (fun j hj=>(qtW.out.lt j hj).1);rw[← q01.out]at hn1;clear hown1 hgrow hB2 cU hcv;go_wp2;go_roundw;case rel=>exact⟨k+1,by rw[← qtV.out],by omega,hn1,hb1⟩
    case measure=>have:=q02.out;rw[← qtV.out]at this;simpa using this
  ·have dE:(f.length+31)/32=k:=by omega
   have hq:(str (f.drop (32*k))).toList.isEmpty=true:=by
    rw[aK,zC,List.drop_of_length_le (by omega)];rfl
   have Hk:=QH dE;clear dE;generalize str (f.drop (32*k))=x at *;go_wp2;go_ret;exact⟨_,rfl,by rw[Hk.out];exact hown,hB⟩
def qwa (b:Bool)(w:World)(e:Ending)(w':World):Prop:=e=.returned (.bool b)∧Below w.heap.size w w'
def qwb (ps qs:List (List UInt8))(w:World)(i:Value)(wr:World):Prop :=
 ∃k:Nat,k≤ps.length∧i=.int .i64 (k:Int)∧ps.take k=qs.take k∧Below w.heap.size w wr
theorem qbx(ps qs:List (List UInt8))(k:Nat)(h1:k<ps.length)(h2:k<qs.length)(h:ps.take k=qs.take k)(e:ps[k]=qs[k]):ps.take (k+1)=qs.take (k+1):=by
 rw[List.take_succ_eq_append_getElem h1,List.take_succ_eq_append_getElem h2,h,e]
theorem aP (a b:Option Addr)(c d:Nat)(ps qs:List (List UInt8))(w:World)(hp:jf w a ps)(hq:jf w b qs)(hl:ps.length≤4611686018427387904)(hm:qs.length≤4611686018427387904) :
    Calls prog 199 #[.slice a ps.length c,.slice b qs.length d] w (qwa (decide (ps=qs)) w):=by
 have HP:=QH hp;have HQ:=QH hq;clear hp hq;by_cases hlen:ps.length=qs.length
 ·go_enter func199,ntmps199;go_wp2;go_loopw [13] (fun i wr=>qwb ps qs w i wr) (fun i _=>ps.length-(intOf i).toNat);case atStart=>exact⟨0,Nat.zero_le _,rfl,rfl,Below.refl _ _⟩
  case round =>
   obtain⟨k,hk,rfl,ht,hB⟩:=hrel;have Ht:=QH ht;clear ht;by_cases hlt:k<ps.length
   ·have hlq:k<qs.length:=by omega
    obtain⟨b1,o1,rfl,hb1,hc1⟩:=HP.out k hlt;obtain⟨b2,o2,rfl,hb2,hc2⟩:=HQ.out k hlq;have qff:wr.cell? ⟨b1,o1+k,none⟩=some (.string (str ps[k])):=by rw[hB.cell (p:=⟨b1,o1+k,none⟩) hb1];exact hc1
    have qaJ:wr.cell? ⟨b2,o2+k,none⟩=some (.string (str qs[k])):=by rw[hB.cell (p:=⟨b2,o2+k,none⟩) hb2];exact hc2
    have q4I:b1<wr.heap.size:=Nat.lt_of_lt_of_le hb1 hB.size;have q4J:b2<wr.heap.size:=Nat.lt_of_lt_of_le hb2 hB.size;have rY:(k:Int)<(ps.length:Int):=by omega
    have mr:(k:Int)<(qs.length:Int):=by omega
    have hbq:((str ps[k]).toList == (str qs[k]).toList)=decide (ps[k]=qs[k]):=by rw[qeI,zC]
    have Hbq:=QH hbq;clear hc1 hc2 hbq;generalize str ps[k]=x at *;generalize str qs[k]=y at *;go_wp2;go_quiet (fail);have hbq:=Hbq.out;generalize (x.toList == y.toList)=q at *;have hB2:=below_drewN hB nq;by_cases he:ps[k]=qs[k]
    ·have hqt:q=true:=by rw[hbq];simpa using he
     have hsn:=QH (qbx ps qs k hlt hlq Ht.out he);clear hbq he;subst hqt;go_wp2;go_roundw;case rel=>exact⟨k+1,by omega,by go_num,hsn.out,hB2⟩
     case measure=>simp[intOf];omega
    ·have hqt:q=false:=by rw[hbq];simpa using he
     have hne:decide (ps=qs)=false:=by
      simp only[decide_eq_false_iff_not];rintro rfl;exact he rfl
     have Hne:=QH hne;clear hbq he hne;subst hqt;go_wp2;go_ret;exact⟨by rw[Hne.out];rfl,hB2⟩
   ·have dE:k=ps.length:=by omega
    have heq:decide (ps=qs)=true:=by
     have:=Ht.out;rw[List.take_of_length_le (by omega),List.take_of_length_le (by omega)]at this;simpa using this
    have Heq:=QH heq;clear heq;go_wp2;go_ret;exact⟨by rw[Heq.out];rfl,hB⟩
 ·have hne:decide (ps=qs)=false:=by
     simp only[decide_eq_false_iff_not];rintro rfl;exact hlen rfl
  have dc:¬ (ps.length:Int)=(qs.length:Int):=by omega
  have Hne:=QH hne;clear hne;go_enter func199,ntmps199;go_wp2;go_ret;exact⟨by rw[Hne.out];rfl,Below.refl _ _⟩
def qnJ (s:ByteArray)(w:World)(e:Ending)(w':World):Prop :=
 ∃v,e=.returned (.tuple #[v,.int .i64 0])∧zQ w' w.heap.size v (qN (bl s))∧Below w.heap.size w w'
theorem qgj(a b:List UInt8)(s:ByteArray)(w:World):jf (w.alloc (.cells #[.string (str a),.string (str b),.string s] 9)) (some ⟨w.heap.size,0,none⟩) [a,b,bl s]:=by
 have:=pk [a,b,bl s] w;simp only[yx,List.map_cons,List.map_nil,iq]at this;exact this
theorem qjP(s:ByteArray)(w:World)(hs:8192<s.size) :
    Calls prog 101 #[.string s] w fun e w'=>e=.returned (.tuple #[.slice none 0 0,.int .i64 3])∧Below w.heap.size w w':=by
 have hc:(8192:Int)<(s.size:Int):=by omega
 go_enter func101,ntmps101;go_wp2;go_ret2;exact⟨rfl,Below.refl _ _⟩
theorem qdq(t:List UInt8):[mD t.length,be4 (vO t),t].flatten=mE t:=by simp[mE,headB]
theorem fB (s:ByteArray)(w:World)(hs:s.size≤8192)(ht:xY w) :
    Calls prog 101 #[.string s] w (qnJ s w):=by
 have HT:=QH ht;have hg:=ht.1;clear ht;have hn:=qjm (bl s);have gY:=qdq (bl s);rw[zn]at gY;have hrl:=dW (bl s);rw[zn]at hrl;have hns:(mE (bl s)).length+31=(bl s).length+37:=by rw[hrl,zn]
 have qah:wC (((mE (bl s)).length+31)/32) (mE (bl s))=qN (bl s):=by rw[hns];rfl
 have Hfl:=QH gY;have Hrl:=QH hrl;have q05:=QH qah;have Hn:=QH hn;clear gY hrl hns qah hn;go_enter func101,ntmps101;go_wp2_with (go_at_call 175;refine(qdn s.size _ (by omega)).mono ?_);rintro e W1 ⟨rfl,b1⟩;have h1:=QH (HT.out.below b1 hg);go_wp2_with (go_at_call 176;refine(qn5 s _ (by omega) h1.out).mono ?_);rintro e W2 ⟨rfl,b2⟩;have b12:=qa b1 b2;clear b1 b2 h1;go_wp2_with (go_at_call 175;refine(qbu (vO (bl s)) _ Hn.out).mono ?_);rintro e W3 ⟨rfl,b3⟩;have b13:=qa b12 b3;have hst:=qgj (mD s.size) (be4 (vO (bl s))) s W3;have qaH:([mD s.size,be4 (vO (bl s)),bl s].flatten).length≤140737488355328:=by rw[Hfl.out,Hrl.out];omega
 have q06:=zR b13 (.cells #[.string (str (mD s.size)),.string (str (be4 (vO (bl s)))),.string s] 9);have hput:=po _ 3 _ _ hst (by simp) qaH;rw[Hfl.out]at hput;have qdr:=QH hput;clear b12 b3 b13 hst qaH hput;go_wp2_with (go_at_call 178;refine qdr.out.mono ?_);rintro e W4 ⟨rfl,b4⟩;have b14:=qa q06 b4;have hcut:=mX (mE (bl s)) W4 (by rw[Hrl.out];omega);rw[q05.out]at hcut;have q53:=QH hcut;clear q06 b4 qdr hcut;go_wp2_with (go_at_call 177;refine q53.out.mono ?_);rintro e W5 ⟨v,rfl,hown,b5⟩;have b15:=qa b14 b5;have hown':zQ W5 w.heap.size v (qN (bl s)):=qbs hown b14.size;clear b14 b5 hown;go_wp2;go_ret2;exact⟨v,rfl,hown',b15⟩
end Go.Proofs.YtdpbdkacngaemaaGreatDoor
namespace Go.Proofs.YtdpbdkacngaemaaGreatDoor.dk
open _root_.Go.Proofs.Tryz Go Go.RowKit
section
variable {w:World} {p m:Nat} {v:Value} {d:DD} {own:Nat→Prop}
end
end Go.Proofs.YtdpbdkacngaemaaGreatDoor.dk
namespace Go.Proofs.YtdpbdkacngaemaaGreatDoor.dk
open _root_.Go.Proofs.Tryz Go Go.RowKit Go.Shelf
attribute [local go_sem] Oper.semAt_some
theorem uT {F:Fence}{n:Nat}{P:Program}{ops:Array Oper}{rest:List Oper}{o:Oper}{a:Act}{w w':World}{v:Value}{Q:Exit→Act→World→Prop}(hg:o.guard=none)(hnd:∀c,o.op ≠ .defer c)(hab:o.about P w a.eval=none)
    (h:(execOp a.eval o).run P w=.ok (.value v) w') (hn:wpListIn F n P ops Q rest (a.put o.dst v) w'):wpListIn F n P ops Q (o::rest) a w:=by
 refine wpListIn_plain hg fun K' hK'=>?_;unfold Oper.wpIn;refine⟨fun f hf=>(by rw[hab]at hf;cases hf),?_⟩;rw[Oper.semAt_plain F _ _ hnd,h];exact hK' _ _ hn
theorem pw {F:Fence}{n:Nat}{P:Program}{ops:Array Oper}{rest:List Oper}{o:Oper}{a:Act}{w w':World}{Q:Exit→Act→World→Prop}(hg:o.guard=none)(hnd:∀c,o.op ≠ .defer c)(hab:o.about P w a.eval=none)
    (h:(execOp a.eval o).run P w=.ok .skip w') (hn:wpListIn F n P ops Q rest (a.put o.dst undef) w'):wpListIn F n P ops Q (o::rest) a w:=by
 refine wpListIn_plain hg fun K' hK'=>?_;unfold Oper.wpIn;refine⟨fun f hf=>(by rw[hab]at hf;cases hf),?_⟩;rw[Oper.semAt_plain F _ _ hnd,h];exact hK' _ _ hn
theorem px {P:Program}{o:Oper}{w:World}{ρ:Operand→Value}(t:TypeId)(x:Operand)(h:o.op=.load t x):o.about P w ρ=none:=by simp[Oper.about,h]
theorem qds{P:Program}{o:Oper}{w:World}{ρ:Operand→Value}(t:TypeId)(x y:Operand)(h:o.op=.store t x y):o.about P w ρ=none:=by simp[Oper.about,h]
theorem qdt{P:Program}{o:Oper}{w:World}{ρ:Operand→Value}(t:TypeId)(h:o.op=.alloc t):o.about P w ρ=none:=by simp[Oper.about,h]
abbrev Wr (n:Nat):={ x:Nat × Bt × Bt × Bool // x.1<n∧x.2.1.length=32∧x.2.2.1.length=32 }
theorem qrQ(l:List (Nat × Bt × Bt × Bool))(h:∀x∈l,(qg x).length=66)(k:Nat)(hk:k<l.length)(j:Nat)(hj:j<66):(jb l)[k*66+j]?=(qg l[k])[j]? :=by
 induction l generalizing k with
 | nil=>simp at hk
 | cons x l ih =>
  have h1:=h x (by simp);show(qg x++jb l)[k*66+j]?=_;cases k with
  | zero =>
   rw[List.getElem?_append_left (by omega)];simp
  | succ k =>
   rw[List.getElem?_append_right (by omega),h1,show(k+1)*66+j-66=k*66+j by omega];exact ih (fun y hy=>h y (by simp[hy])) k (by simpa using hk)
theorem qhW{w:World}{v:Value}{l:List (Nat × Bt × Bt × Bool)}{base:Nat}(hown:w.ownsRow base 148 66 v l.length (jb l))(h:∀x∈l,(qg x).length=66)(k:Nat)(hk:k<l.length) :
    ∃g c cur,v=.slice (some ⟨g,0,none⟩) l.length c∧l.length≤c∧c≤maxLen∧w.heap[g]?=some (.cells cur 148 (0,0))∧∀j u,(qg l[k])[j]?=some u→cur[k*66+j]?=some u:=by
 rcases hown.2 with⟨_,h0⟩|⟨g,cap,cur,rfl,_,hg,hc,hm,hs,iH⟩
 ·omega
 ·refine⟨g,cap,cur,rfl,hc,hm,hg,fun j u hu=>?_⟩;have hl:(qg l[k]).length=66:=h _ (List.getElem_mem hk);have hj:j<66:=by rw[← hl];exact(List.getElem?_eq_some_iff.1 hu).1
  have h1:k*66+j<l.length*66:=by
   have:(k+1)*66≤l.length*66:=Nat.mul_le_mul_right _ hk;omega
  rw[← qrQ l h k hk j hj,← iH,List.getElem?_take_of_lt h1]at hu;simpa using hu
def qgl (Bs:Nat)(v:Value)(W W':World):Prop:=∀b,b=Bs∨v.ownBlock=some b→W'.heap[b]?=W.heap[b]?
def av {n:Nat}(L:List (Wr n)):List (Nat × Wr n):=(L.zipIdx.map fun x=>(x.2,x.1)).reverse
theorem gz {n:Nat}(L:List (Wr n)):(av L).length=L.length:=by simp[av]
theorem qai{n:Nat}(L:List (Wr n))(r:Nat)(h:r<L.length):(av L)[r]?=some (L.length-1-r,L[L.length-1-r]):=by
 unfold av;rw[List.getElem?_reverse (by simpa using h)];simp
def qrR {n:Nat}(x:Nat × Wr n):Array Value:=#[.int .i64 (x.1:Int),.agg (qg x.2.1).toArray]
theorem qnK(F:Fence)(nn:Nat)(hF:F.fn 149)(hro:F.round=none)(hn:1≤nn)(l Bs:Nat)(v:Value){n:Nat}(L:List (Wr n))(hL:L.length≤1000000)(J Jx:List (Nat × Wr n)→World→Prop)
    (hY:∀pre x W,J pre W→pre.length<L.length→YieldAt F (nn-1) prog l (qrR x) W fun e W' =>
     (e=.returned (.bool true)∧J (pre++[x]) W'∧qgl Bs v W W')∨(e=.returned (.bool false)∧Jx (pre++[x]) W'))
    (W:World) (hBs:qd W Bs 86 #[v]) (hown:W.ownsRow 0 148 66 v L.length (jb (L.map (·.1)))) (h0:J [] W) :
    CallsIn F nn prog 149 #[.func (.yield l) #[] #[],.pointer (some ⟨Bs,0,none⟩)] W fun e W'=>(∃v,e=.returned v) ∧
     ((∃ys,ys=av L∧J ys W')∨(∃pre,True∧Jx pre W')):=by
 have h66:∀x∈L.map (fun y=>y.1),(qg x).length=66:=by
  intro x hx;obtain⟨y,_,rfl⟩:=List.mem_map.1 hx;exact zi _ y.2.2.1 y.2.2.2
 obtain⟨A,c,hA⟩:=xQ hown;have HB:=QH hBs;have HO:=QH hown;have H66:=QH h66;have HY:=QH hY;have HA:=QH hA;have HVB:Hid (v.ownBlock=v.ownBlock):=rfl;clear hBs hown h66 hY;subst hA;have kB:W.cell? ⟨Bs,0,none⟩=some (.slice A L.length c):=HB.out.cell 0;refine callsIn_of_wp func149 rfl hF ?_ hro;simp only[ntmps149,List.size_toArray,List.length_cons,List.length_nil,Nat.reduceAdd,Nat.reduceSub,Array.replicate_succ,Array.replicate_zero,List.push_toArray,List.append_toArray,List.nil_append,List.cons_append]
 gi_wp2
 gi_loopw [3] (fun i wr=>∃k:Nat,k≤L.length∧i=.int .i64 ((k:Int)-1)∧J ((av L).take (L.length-k)) wr∧qgl Bs (.slice A L.length c) W wr) (fun i _=>(intOf i+1).toNat)
 case atStart=>exact⟨L.length,Nat.le_refl _,rfl,by simpa using h0,fun _ _=>rfl⟩
 case round =>
  obtain⟨k,hk,rfl,hJ,hKp⟩:=hrel;have HKp:=QH hKp;have HJ:=QH hJ;have kb':wr.cell? ⟨Bs,0,none⟩=some (.slice A L.length c):=(World.cell?_of_block (a:=⟨Bs,0,none⟩) (hKp Bs (.inl rfl))).trans kB;clear hKp hJ;cases k with
  | zero =>
   gi_wp2
   go_end0
   have:=HJ.out;rw[Nat.sub_zero,List.take_of_length_le (by rw[gz];exact Nat.le_refl _)]at this;exact⟨⟨_,rfl⟩,.inl ⟨_,rfl,this⟩⟩
  | succ j =>
   have ej:((j+1:Nat):Int)-1=(j:Int):=by omega
   rw[ej];have hj:j<L.length:=by omega
   have hown':wr.ownsRow 0 148 66 (.slice A L.length c) (L.map (fun y=>y.1)).length (jb (L.map (fun y=>y.1))):=by
    rw[List.length_map];exact zt HO.out (fun b hb=>HKp.out b (.inr hb))
   obtain⟨g,c',cur,hv,hlc,hcm,hg,xg⟩:=qhW hown' H66.out j (by rw[List.length_map];exact hj);simp only[Value.slice.injEq,List.length_map,true_and]at hv;obtain⟨rfl,rfl⟩:=hv;have iH:(av L).take (L.length-j)=(av L).take (L.length-(j+1))++[(j,L[j])]:=by
    have hr:L.length-(j+1)<L.length:=by omega
    have h1:=qai L (L.length-(j+1)) hr;have e1:L.length-j=(L.length-(j+1))+1:=by omega
    have e2:L.length-1-(L.length-(j+1))=j:=by omega
    rw[e1,List.take_add_one,h1];simp only[e2,Option.toList_some]
   have mH:(qg ((L.map (fun y=>y.1))[j]'(by rw[List.length_map];exact hj))).length=66:=H66.out _ (List.getElem_mem _);rw[List.getElem_map]at mH xg;have ua:=QH iH;obtain⟨fn,tmps,assign,body,hy,hR⟩:=HY.out _ (j,L[j]) wr HJ.out (by rw[List.length_take,gz];omega);generalize L[j]=x at *;dsimp only[qrR]at hy;have HG:=QH hg;have q55:=QH xg;have HX:=QH mH;have HR:=QH hR;have HLC:=QH hlc;have HCM:=QH hcm;clear hg xg mH hR hown' iH hlc hcm ej
   gi_wp2_with (refine uT rfl (fun c h=>by cases h) (px _ _ rfl) (qF 148 (.tmp 15) rfl g (j*66) rfl _ cur (qg x.1) _ _ HG.out underlying148 rfl (by rw[vN,HX.out]) q55.out) ?_)
   refine HR.out.mono ?_;rintro e W3 (⟨rfl,hJ3,hk3⟩|⟨rfl,hJx3⟩)
   ·gi_wp2
    go_roundw;case rel =>
     refine⟨j,by omega,rfl,by rw[ua.out];exact hJ3,fun b hb=>(hk3 b hb).trans (HKp.out b hb)⟩
    case measure=>simp[intOf]
   ·gi_wp2
    refine bodyPost_ret (results_none rfl _ _ _) rfl ?_;exact⟨⟨_,rfl⟩,.inr ⟨_,trivial,hJx3⟩⟩
theorem qdu(F:Fence)(n:Nat)(hF:F.fn 74)(hro:F.round=none)(a:Option Addr)(len cap:Nat)(w:World) :
    CallsIn F n prog 74 #[.slice a len cap] w fun e w'=>e=.returned (.func (.func 149) #[] #[.pointer (some ⟨w.heap.size,0,none⟩)])∧w'=w.alloc (.cells #[.slice a len cap] 86):=by
 refine callsIn_of_wp func74 rfl hF ?_ hro;simp only[ntmps74,List.size_toArray,List.length_cons,List.length_nil,Nat.reduceAdd,Nat.reduceSub,Array.replicate_succ,Array.replicate_zero,List.push_toArray,List.append_toArray,List.nil_append,List.cons_append]
 gi_wp2
 go_ret;exact⟨rfl,rfl⟩
theorem qgm(F:Fence)(nn:Nat)(hF:F.fn 149)(hro:F.round=none)(hn:1≤nn)(Bs:Nat)(v:Value){n:Nat}(L:List (Wr n))(hL:L.length≤1000000)(w:World)
    (hBs:qd w Bs 86 #[v]) (hown:w.ownsRow 0 148 66 v L.length (jb (L.map (·.1)))) :
    SeqStopsK F nn prog 149 #[.pointer (some ⟨Bs,0,none⟩)] qrR (qgl Bs v) (fun ys=>ys=av L) (fun _=>True) L.length w:=fun l J Jx W hW _ _ hY h0 =>
 qnK F nn hF hro hn l Bs v L hL J Jx hY W (hBs.of_block (hW.block _ hBs.lt)) (zt hown (fun b hb=>hW.block b (jP hown b hb))) h0
end Go.Proofs.YtdpbdkacngaemaaGreatDoor.dk
namespace Go.Proofs.YtdpbdkacngaemaaGreatDoor.dk
open _root_.Go.Proofs.Tryz Go Go.RowKit
section
variable {w:World} {p m:Nat} {v:Value} {d:DD} {own:Nat→Prop}
theorem zK.low{most:Nat}(h:zK most w own p d):∀j,own j→j<w.heap.size:=by
 obtain⟨_,m,v,h1⟩:=h;exact h1.2.2.2.2.2.2
theorem zK.below{most:Nat}{w':World}(h:zK most w own p d)(hb:Below w.heap.size w w'):zK most w' own p d :=
 h.keep hb.size (fun j hj=>hb.block j (h.low j hj))
theorem qgn{most:Nat}(h:zK most w own p d)(xc:d.on=true)(k:Int)(hh:d.has k=true)(s:ByteArray)(hs:s.size=32)(hf:d.fits [k]=true)(hop:d.oper.on=false) :
    Calls prog 194 #[.pointer (some ⟨p,0,none⟩),.int .i64 k,.string s] w (xj most own p d.oper (.int .i64 6) w):=by
 have hk0:0≤k∧k<(d.n:Int):=by simpa[DD.has]using hh
 have hn:=h.1.n1;have h2:zK most (w.alloc (.cells #[.int .i64 k] 3)) own p d:=h.below ((Below.refl _ _).alloc (Nat.le_refl _) _);have HF:=QH (wy h2 _ 1 [k] (og w k (by omega) (by omega)) (by simp));rw[hf]at HF;have H:=QH h;have HO:=QH (fun(W:World) (hW:zK most W own p d)=>nY hW xc);rw[hop]at HO;obtain⟨h0,m,v,h1⟩:=h;have hhas:=kD h1 k;rw[hh]at hhas;have HH:=QH hhas;obtain⟨c0,c1,c2,c3,c4,c5⟩:=jQ h1.1;rw[xc]at c4;have hsz:((s.size:Int) == 32)=true:=by rw[beq_iff_eq];omega
 clear h0 h1 c0 c1 c2 c3 c5 xc hhas hh hs hf h2 hk0 hn hop;go_enter func194,ntmps194;go_wp2_with (first|(go_at_call 197;refine HH.out.mono ?_;rintro e w' ⟨rfl,rfl⟩)|(go_at_call 182;refine HF.out.mono ?_;rintro e w2 ⟨rfl,hb2⟩;have qC:=QH (((Below.refl _ w).alloc (Nat.le_refl _) (.cells #[.int .i64 k] 3)).trans (hb2.mono (by simp)));clear hb2;have HW2:=QH (HO.out w2 (H.out.below qC.out)))|(go_at_call 257;refine HW2.out.mono ?_;rintro e w3 ⟨rfl,aw,hd3,hb3,hg3⟩;have HD3:=QH hd3;have zB:=QH hb3;have HG3:=QH hg3;clear hd3 hb3 hg3));go_ret;exact⟨rfl,aw,HD3.out,(qB.of_below qC.out).trans zB.out (fun _ h=>.inl h),fun j hj=>by
  rcases HG3.out j hj with h|h
  ·exact .inl h
  ·exact .inr (Nat.le_trans qC.out.size h)⟩
theorem qgo{most:Nat}(h:zK most w own p d)(hm:d.more.length<most)(jc:most≤100000)(xc:d.on=true)(k:Int)(hh:d.has k=true)(s:ByteArray)(hs:s.size=32)(hf:d.fits [k]=true)(hop:d.oper.on=true) :
    Calls prog 194 #[.pointer (some ⟨p,0,none⟩),.int .i64 k,.string s] w (xj most own p { d.oper with more:=d.more++[(k.toNat,bl s)] } (.int .i64 0) w):=by
 have hk0:0≤k∧k<(d.n:Int):=by simpa[DD.has]using hh
 have hn:=h.1.n1;have h2:zK most (w.alloc (.cells #[.int .i64 k] 3)) own p d:=h.below ((Below.refl _ _).alloc (Nat.le_refl _) _);have HF:=QH (wy h2 _ 1 [k] (og w k (by omega) (by omega)) (by simp));rw[hf]at HF;have H:=QH h;have HO:=QH (fun(W:World) (hW:zK most W own p d)=>nY hW xc);rw[hop]at HO;obtain⟨h0,m,v,h1⟩:=h;have hhas:=kD h1 k;rw[hh]at hhas;have HH:=QH hhas;obtain⟨c0,c1,c2,c3,c4,c5⟩:=jQ h1.1;rw[xc]at c4;have hsz:((s.size:Int) == 32)=true:=by rw[beq_iff_eq];omega
 have HS:=QH hs;have HK:=QH hk0;have HN:=QH hn;have HMO:=QH hm;have HMM:=QH jc;have HOP:=QH hop;obtain⟨k,rfl⟩:∃j:Nat,k=(j:Int):=⟨k.toNat,by omega⟩;clear h0 h1 c0 c1 c2 c3 c5 xc hhas hh hs hf h2 hk0 hn hop hm jc;go_enter func194,ntmps194;go_wp2_with (first|(go_at_call 197;refine HH.out.mono ?_;rintro e w' ⟨rfl,rfl⟩)|(go_at_call 182;refine HF.out.mono ?_;rintro e w2 ⟨rfl,hb2⟩;have qC:=QH (((Below.refl _ w).alloc (Nat.le_refl _) (.cells #[.int .i64 (k:Int)] 3)).trans (hb2.mono (by simp)));clear hb2;have HW2:=QH (HO.out w2 (H.out.below qC.out)))|(go_at_call 257;refine HW2.out.mono ?_));rintro e w3 ⟨rfl,aw,hd3,hb3,hg3⟩;have HD3:=QH hd3;have zB:=QH hb3;have HG3:=QH hg3;obtain⟨h30,m3,v3,h31⟩:=hd3;have H30:=QH h30;have H31:=QH h31;obtain⟨A,c,hA⟩:=xQ h31.2.2.1;obtain⟨g0,g1,g2,g3,g4,g5⟩:=jQ h31.1;have hp3:=h31.1.lt;have hm3:=h31.2.1.lt;have HLB:Hid (((look d.oper.now (k:Int)).getD zz).length=32):=by
  unfold Hid;cases hx:look d.oper.now (k:Int)with
  | none=>exact qJ
  | some u=>exact h30.tM hx
 clear hb3 hg3 c4 h30 h31 HF HO HH HW2;go_wp2_with (first|(refine qh rfl (qaW _ k rfl rfl) ?_)|(refine qh rfl (jR rfl) ?_)|(refine wpList_skip rfl (qZ w3 148 _ _ (.tmp 7) (.tmp 38) rfl rfl rfl (by rw[vN,List.size_toArray,zi _ qJ qJ]) (by simp[zi,qJ]) (nZ _)) ?_)|(refine qh rfl (qcN w3 (.tmp 40) (.tmp 41) k s rfl rfl rfl HS.out) ?_)|(at_lookup;refine qh rfl (wX _ _ rfl rfl (H31.out.2.1.of_block (Below.heap_alloc w3 _ _ hm3)) (k:Int) rfl (by omega) (by have:=HK.out;have:=HN.out;omega)) ?_)|(refine wpList_skip rfl (eO w3 (.tmp 52) (.tmp 50) k (bl s) _ false rfl rfl rfl (by rw[zn,HS.out]) HLB.out) ?_)|(refine wpList_skip rfl (bY w3 (.tmp 53) (.tmp 51) k (bl s) _ _ rfl rfl rfl (by rw[zn,HS.out]) HLB.out) ?_));have HX:Hid (uL (w3.alloc (.cells (qg (k,bl s,(look d.oper.now (k:Int)).getD zz,(look d.oper.now (k:Int)).isSome)).toArray 148)) aw p m3 v3 d.oper) :=
  H31.out.keep (by simp) (fun j hj=>Below.heap_alloc _ _ _ (HD3.out.low j hj))
 have HXB:Hid (qd (w3.alloc (.cells (qg (k,bl s,(look d.oper.now (k:Int)).getD zz,(look d.oper.now (k:Int)).isSome)).toArray 148)) w3.heap.size 148 (qg (k,bl s,(look d.oper.now (k:Int)).getD zz,(look d.oper.now (k:Int)).isSome)).toArray):=qd.new _ _ _;have HXW:Hid (Below w3.heap.size w3 (w3.alloc (.cells (qg (k,bl s,(look d.oper.now (k:Int)).getD zz,(look d.oper.now (k:Int)).isSome)).toArray 148))):=(Below.refl _ _).alloc (Nat.le_refl _) _;have HXS:Hid ((w3.alloc (.cells (qg (k,bl s,(look d.oper.now (k:Int)).getD zz,(look d.oper.now (k:Int)).isSome)).toArray 148)).heap.size=w3.heap.size+1):=by unfold Hid;simp
 have HLX:Hid ((qg (k,bl s,(look d.oper.now (k:Int)).getD zz,(look d.oper.now (k:Int)).isSome)).length=66):=zi _ (by rw[zn,HS.out]) HLB.out;generalize hX:w3.alloc (.cells (qg (k,bl s,(look d.oper.now (k:Int)).getD zz,(look d.oper.now (k:Int)).isSome)).toArray 148)=X at *;clear hX g0 g1 g2 g3 g4 g5;subst hA;obtain⟨g0,g1,g2,g3,g4,g5⟩:=jQ HX.out.1;have hf3:=HX.out.1.frozen 3;have hpX:=HX.out.1.lt;simp only[Act.put];refine wp_region_any (by kernel_rfl) ?_
 change wpAny _ _ _ _ _ _ _ (World.drew _)
 refine wpAny_take (i:=0) (v:=.pointer (some ⟨p,0,none⟩)) rfl (by kernel_rfl) (by kernel_rfl) (by kernel_rfl) (fun _ _ _ h=>h) (Or.inl ⟨by rfl,fun w=>by go_simp⟩) ?_;go_simp;refine wpAny_take (i:=1) (v:=.pointer (some ⟨p,0,none⟩)) rfl (by kernel_rfl) (by kernel_rfl) (by kernel_rfl) (fun _ _ _ h=>h) (Or.inl ⟨by rfl,fun w=>by go_simp⟩) ?_;go_simp;refine wpAny_take (i:=2) (v:=.pointer (some ⟨p,0,none⟩)) rfl (by kernel_rfl) (by kernel_rfl) (by kernel_rfl) (fun _ _ _ h=>h) (Or.inl ⟨by rfl,fun w=>by go_simp⟩) ?_;go_simp;refine wpAny_take (i:=3) (v:=.pointer (some ⟨p,3,none⟩)) rfl (by kernel_rfl) (by kernel_rfl) (by kernel_rfl) (fun _ _ _ h=>h) (Or.inl ⟨by rfl,fun w=>by go_simp⟩) ?_;go_simp;refine sr (i:=4) (j:=5) (l:=6) (di:=58) (dj:=59) (dl:=60) (vi:=.slice A d.oper.more.length c) (vj:=.agg (qg (k,bl s,(look d.oper.now (k:Int)).getD zz,(look d.oper.now (k:Int)).isSome)).toArray) (vl:=.slice (some ⟨X.drew.heap.size,0,none⟩) 1 1) (w2:=X.drew.alloc (.cells (qg (k,bl s,(look d.oper.now (k:Int)).getD zz,(look d.oper.now (k:Int)).isSome)).toArray 148))
  (by kernel_rfl) (by kernel_rfl) (by kernel_rfl) (by kernel_rfl) (by kernel_rfl) (by decide) (by decide) rfl rfl rfl rfl rfl rfl rfl rfl rfl (by decide) (by decide) (dT _ rfl p 3 rfl _ _ _ g3) (dT _ rfl p 3 rfl _ _ _ g3) (dT _ rfl p 3 rfl _ _ _ ((World.cell?_of_block (a:=⟨p,3,none⟩) (Below.heap_alloc _ _ _ hpX)).trans g3))
  (dS _ rfl w3.heap.size rfl _ HXB.out (by rw[List.size_toArray,HLX.out])) (dS _ rfl w3.heap.size rfl _ HXB.out (by rw[List.size_toArray,HLX.out])) (oa _ _ rfl rfl (by rw[List.size_toArray,HLX.out])) (oa _ _ rfl rfl (by rw[List.size_toArray,HLX.out])) ?_
 have qnM:=HX.out.2.2.1;have q0A:=HX.out.2.2.2.2.2.2;have qtZ:qd (X.drew.alloc (.cells (qg (k,bl s,(look d.oper.now (k:Int)).getD zz,(look d.oper.now (k:Int)).isSome)).toArray 148)) X.drew.heap.size 148 (qg (k,bl s,(look d.oper.now (k:Int)).getD zz,(look d.oper.now (k:Int)).isSome)).toArray:=qd.new _ _ _;have qnN:(X.drew.alloc (.cells (qg (k,bl s,(look d.oper.now (k:Int)).getD zz,(look d.oper.now (k:Int)).isSome)).toArray 148)).ownsRow 0 148 66 (.slice A d.oper.more.length c) d.oper.more.length (jb (jn d.oper.base d.oper.more)) :=
  zt (w:=X) qnM (fun j hj=>Below.heap_alloc X.drew _ j (jP qnM j hj))
 have hml:d.oper.more.length<100000:=by rw[(xU d).2.1];have:=HMO.out;have:=HMM.out;omega
 obtain⟨i0,hi,hz0,hz1,hz2⟩:=info_parts qfA;refine qM (i:=7) (by kernel_rfl) rfl rfl ?_;refine qaX (.tmp 58) (.tmp 60) 86 rfl 0 148 i0 _ 66 80 underlying86 hi hz0 hz1 hz2 (by simp[Value.cells,zi,qJ]) (by decide) _ _ _ rfl qnN ⟨X.drew.heap.size,0,none⟩ 1 1 (qg (k,bl s,(look d.oper.now (k:Int)).getD zz,(look d.oper.now (k:Int)).isSome)) rfl (by rw[HLX.out]) ?_ (dR _) (by unfold maxLen;omega) (by omega) (Nat.zero_le _) ?_
 ·intro j u hu;rw[addr_add,Nat.zero_add,qtZ.cell j];simpa using hu
 intro v7 w7 qhX qwg qnO;obtain⟨A7,c7,rfl⟩:=xQ qhX;have hne:=HX.out.ne;have q0B:(X.drew.alloc (.cells (qg (k,bl s,(look d.oper.now (k:Int)).getD zz,(look d.oper.now (k:Int)).isSome)).toArray 148)).heap.size=X.heap.size+1:=by simp
 have qby:∀j,j<X.heap.size→(Value.slice A d.oper.more.length c).ownBlock≠some j→w7.heap[j]?=X.heap[j]? :=fun j hj hn =>
  (qwg.block j (by rw[q0B];omega) (fun e=>hn e.symm)).trans (Below.heap_alloc X.drew _ j hj)
 have q58:=HX.out.2.1.lt;have hP7:w7.heap[p]?=X.heap[p]? :=qby p hpX (fun e=>(hne.2 _ e).1 rfl);have hM7:w7.heap[m3]?=X.heap[m3]? :=qby m3 q58 (fun e=>(hne.2 _ e).2 rfl);have hvb:∀j,(Value.slice A d.oper.more.length c).ownBlock=some j→j<w3.heap.size:=fun j hj=>HD3.out.low j (HX.out.2.2.2.2.2.1 j hj);have hS7:w7.heap[w3.heap.size]?=X.heap[w3.heap.size]? :=qby _ (by rw[HXS.out];omega) (fun e=>by have:=hvb _ e;omega);have qub:Hid (qB aw w3 w7):=by
  refine((qB.of_below (S:=aw) HXW.out).drew.alloc _).grown qwg (fun j hj=>.inl (HX.out.2.2.2.2.2.1 j hj))
 have qnP:∀j,(Value.slice A7 (d.oper.more.length+1) c7).ownBlock=some j→aw j∨w3.heap.size≤j:=by
  intro j hj;rcases qnO with e|e
  ·exact .inl (HX.out.2.2.2.2.2.1 j (e.symm.trans hj))
  ·rw[hj]at e;injection e with e
   right
   have:=HXS.out;have e2:X.drew.alloc (.cells (qg (k,bl s,(look d.oper.now (k:Int)).getD zz,(look d.oper.now (k:Int)).isSome)).toArray 148)=X.drew.alloc (.cells (qg (k,bl s,(look d.oper.now (k:Int)).getD zz,(look d.oper.now (k:Int)).isSome)).toArray 148):=rfl;omega
 have q0C:∀j,(Value.slice A7 (d.oper.more.length+1) c7).ownBlock=some j→j<w7.heap.size:=jP qhX;have quc:∀j,(Value.slice A7 (d.oper.more.length+1) c7).ownBlock=some j→j≠p∧j≠m3:=by
  intro j hj;rcases qnO with e|e
  ·exact hne.2 j (e.symm.trans hj)
  ·rw[hj]at e;injection e with e
   exact⟨by omega,by omega⟩
 have HP7:Hid (qd w7 p 88 #[.int .i64 (d.oper.n:Int),.int .i64 d.oper.room,.map (some m3),.slice A d.oper.more.length c,.bool d.oper.on,.int .i64 d.oper.qz]):=HX.out.1.of_block hP7;have HM7:Hid (zH w7 m3 d.oper.now):=HX.out.2.1.of_block hM7;have HS7:Hid (qd w7 w3.heap.size 148 (qg (k,bl s,(look d.oper.now (k:Int)).getD zz,(look d.oper.now (k:Int)).isSome)).toArray):=HXB.out.of_block hS7;have HO7:=QH qhX;have dt:=QH qnP;have rM:=QH q0C;have HPN:=QH quc;have tH:=QH hne;have tK:Hid (w3.heap.size≤w7.heap.size):=qub.out.size;have k3:=HP7.out.cell 3;have fr3:=HP7.out.frozen 3;have hp7:=HP7.out.lt;clear hS7 hM7 hP7 qby qwg qnO qhX qnM qnN qtZ qnP q0C quc hne q0B q0A g0 g1 g2 g3 g4 g5 hf3 hi hz0 hz1 hz2 hvb hml;go_simp;refine qM (i:=8) (by kernel_rfl) rfl rfl ?_;go_simp;refine qM (i:=9) (by kernel_rfl) rfl rfl ?_;go_simp;refine qM (i:=10) (by kernel_rfl) rfl rfl ?_;go_simp;refine⟨by kernel_rfl,?_⟩;go_wp2_with fail;have HP8:Hid (qd (w7.setCell ⟨p,3,none⟩ (.slice A7 (d.oper.more.length+1) c7)) p 88 #[.int .i64 (d.oper.n:Int),.int .i64 d.oper.room,.map (some m3),.slice A7 (d.oper.more.length+1) c7,.bool d.oper.on,.int .i64 d.oper.qz]):=HP7.out.qo 3 _;have HM8:Hid (zH (w7.setCell ⟨p,3,none⟩ (.slice A7 (d.oper.more.length+1) c7)) m3 d.oper.now):=HM7.out.of_block (zV _ _ _ _ _ (fun e=>tH.out.1 e.symm));have HS8:Hid (qd (w7.setCell ⟨p,3,none⟩ (.slice A7 (d.oper.more.length+1) c7)) w3.heap.size 148 (qg (k,bl s,(look d.oper.now (k:Int)).getD zz,(look d.oper.now (k:Int)).isSome)).toArray):=HS7.out.of_block (zV _ _ _ _ _ (by omega));have HO8:Hid ((w7.setCell ⟨p,3,none⟩ (.slice A7 (d.oper.more.length+1) c7)).ownsRow 0 148 66 (.slice A7 (d.oper.more.length+1) c7) (d.oper.more.length+1) (jb (jn d.oper.base d.oper.more)++qg (k,bl s,(look d.oper.now (k:Int)).getD zz,(look d.oper.now (k:Int)).isSome))) :=
  zt HO7.out (fun j hj=>zV _ _ _ _ _ (HPN.out j hj).1)
 have qud:Hid (qB aw w3 (w7.setCell ⟨p,3,none⟩ (.slice A7 (d.oper.more.length+1) c7))):=qub.out.setCell _ _ (.inl H31.out.2.2.2.1);have q0D:Hid ((w7.setCell ⟨p,3,none⟩ (.slice A7 (d.oper.more.length+1) c7)).heap.size=w7.heap.size):=by unfold Hid;simp[size_set]
 generalize hw8:w7.setCell ⟨p,3,none⟩ (.slice A7 (d.oper.more.length+1) c7)=w8 at *;clear hw8 k3 fr3;have q2:=HP8.out.cell 2;have hp8:=HP8.out.lt;have qnQ:=rowOf (k,bl s,(look d.oper.now (k:Int)).getD zz,(look d.oper.now (k:Int)).isSome) (by rw[zn,HS.out]) HLB.out;have q5B:=QH qnQ;have hlb:(Lib.byteCells (bl s)).length=32:=by rw[Lib.byteCells_length,zn,HS.out]
 have HLb:=QH hlb;clear qnQ hlb;refine xe 7 (by kernel_rfl) (by kernel_rfl) ?_;simp only[List.take_succ_cons,List.take_zero,List.drop_succ_cons,List.drop_zero]
 iterate 6 still_step
 refine yE rfl (qF _ _ rfl w3.heap.size 1 rfl _ _ (Lib.byteCells (bl s)) _ _ HS8.out underlying146 rfl (by rw[bX,HLb.out]) q5B.out.data) ?_;refine wpStill_nil ?_;have hnl:d.oper.now.length=d.n:=by rw[d.oper.yJ,qnc]
 have hkn:k<d.oper.now.length:=by rw[hnl];have:=HK.out;omega
 have q0E:d.oper.now.length≤1024:=by rw[hnl];exact HN.out
 have HNL:=QH hnl;have HKN:=QH hkn;have q5C:=QH q0E;clear hnl hkn q0E;refine kU (w:=w8.drew) rfl _ _ _ rfl rfl HM8.out k rfl (bl s) rfl HKN.out q5C.out ?_;intro w9 hm9 ht9;have HM9:=QH hm9;have HT9:=QH (yL ht9);clear hm9 ht9;go_wp2_with fail;go_ret;have hb9:∀j,j<w8.heap.size→j≠m3→w9.heap[j]?=w8.heap[j]? :=fun j hj hn=>HT9.out.block j hj hn;have zc8:m3<w8.heap.size:=HM8.out.lt;refine⟨rfl,fun j=>aw j∨(Value.slice A7 (d.oper.more.length+1) c7).ownBlock=some j,⟨?_,m3,.slice A7 (d.oper.more.length+1) c7,?_⟩,?_,?_⟩
 ·refine { H30.out with nT:=?_,at1:=?_ }
  ·simp;have:=HMO.out;omega
  ·intro x hx;simp only[List.mem_append,List.mem_singleton]at hx;rcases hx with hx|rfl
   ·exact H30.out.at1 x (by rw[(xU d).2.1];exact hx)
   ·refine⟨?_,by show(bl s).length=32;rw[zn,HS.out]⟩;show k<d.oper.n;rw[qnc];have:=HK.out;omega
 ·have hd:({ d.oper with more:=d.more++[((k:Int).toNat,bl s)] }:DD).now=put d.oper.now k (bl s):=by
     show qR d.oper.base (d.more++[((k:Int).toNat,bl s)])=_;rw[wk,← (xU d).2.1];rfl
  refine⟨?_,by rw[hd];exact HM9.out,?_,.inl HX.out.2.2.2.1,.inl HX.out.2.2.2.2.1,fun j hj=>.inr hj,?_⟩
  ·exact HP8.out.of_block (hb9 p hp8 tH.out.1)
  ·have e1:(d.more++[((k:Int).toNat,bl s)]).length=d.oper.more.length+1:=by rw[(xU d).2.1];simp
   have e2:jb (jn d.oper.base (d.more++[((k:Int).toNat,bl s)]))=jb (jn d.oper.base d.oper.more)++qg (k,bl s,(look d.oper.now (k:Int)).getD zz,(look d.oper.now (k:Int)).isSome):=by
    rw[Int.toNat_natCast,tN,qfC,(xU d).2.1,dU];rw[show qR d.oper.base d.more=d.now from by rw[(xU d).1];rfl]
   show w9.ownsRow 0 _ 66 _ (d.more++[((k:Int).toNat,bl s)]).length (jb (jn d.oper.base (d.more++[((k:Int).toNat,bl s)])));rw[e1,e2];exact zt HO8.out (fun j hj=>hb9 j (by rw[q0D.out];exact rM.out j hj) (HPN.out j hj).2)
  ·intro j hj;have h9:=HT9.out.size;have h8:=qud.out.size;have e9:w8.drew.heap.size=w8.heap.size:=rfl;rcases hj with hj|hj
   ·have:=HD3.out.low j hj;omega
   ·have:=rM.out j hj;have:=q0D.out;omega
 ·have t1:qB own w w2:=qB.of_below qC.out;have t2:qB own w w3:=t1.trans zB.out (fun _ h=>.inl h);refine(t2.trans qud.out ?_).drew.trans HT9.out ?_
  ·intro j hj;rcases HG3.out j hj with h|h
   ·exact .inl h
   ·exact .inr (Nat.le_trans qC.out.size h)
  ·intro j hj;subst hj;rcases HG3.out _ HX.out.2.2.2.2.1 with h|h
   ·exact .inl h
   ·exact .inr (Nat.le_trans qC.out.size h)
 ·intro j hj;have hj2:aw j∨w3.heap.size≤j:=by
   rcases hj with hj|hj
   ·exact .inl hj
   ·exact dt.out j hj
  have s2:=qC.out.size;have s3:=zB.out.size;rcases hj2 with hj2|hj2
  ·rcases HG3.out j hj2 with h|h
   ·exact .inl h
   ·exact .inr (by omega)
  ·exact .inr (by omega)
end
end Go.Proofs.YtdpbdkacngaemaaGreatDoor.dk

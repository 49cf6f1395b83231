/- VgMem, Parts, VgCop, VgRow, VgDec, SlotsT, VgEff. -/
import Derived.Test.YtdpbdkacngaemaaGreatDoorZK10
import Derived.Laws.IdiomCopy
import Derived.Lib.SlBuf
set_option linter.unusedVariables false
set_option linter.unusedSimpArgs false
set_option maxHeartbeats 30000000
set_option maxRecDepth 100000
namespace Go.Proofs.YtdpbdkacngaemaaGreatDoor.vt.pg
open _root_.Go.Proofs.Tryz Go Go.RowKit ib jr mt im sp
def InS (G:Nat→Prop)(A:Option Addr):Prop:=∀b o s,A=some ⟨b,o,s⟩→G b
theorem InS.none(G:Nat→Prop):InS G none:=fun _ _ _ h=>by cases h
theorem InS.mono{G G':Nat→Prop}{A:Option Addr}(h:InS G A)(hg:∀j,G j→G' j):InS G' A:=fun b o s e=>hg b (h b o s e)
def vq (G:Nat→Prop)(w w':World):Prop:=w.heap.size≤w'.heap.size∧∀j,G j→j<w.heap.size→w'.heap[j]?=w.heap[j]?
theorem vq.of_below{G:Nat→Prop}{w w':World}(h:Below w.heap.size w w'):vq G w w':=⟨h.size,fun j _ hj=>h.block j hj⟩
theorem vq.ld{G S:Nat→Prop}{w w':World}(h:ib.qB S w w')(hs:∀j,G j→¬ S j):vq G w w':=⟨h.size,fun j hg hj=>h.block j hj (hs j hg)⟩
structure dN(G:Nat→Prop)(w:World)(A:Option Addr)(l:List Int)(c:Nat):Prop where
 at_:yU w A l c
 in_:0<l.length→InS G A
theorem qg2{G:Nat→Prop}{w w':World}{A:Option Addr}{l:List Int}(h:ib.qH w A l)(hi:0<l.length→InS G A)(hs:vq G w w'):ib.qH w' A l:=by
 intro i hi';obtain⟨b,o,h1,h2,h3,h4⟩:=h i hi';refine⟨b,o,h1,Nat.lt_of_lt_of_le h2 hs.1,?_,h4⟩;rw[World.cell?_of_block (a:=⟨b,o+i,none⟩) (hs.2 b (hi (by omega) b o none h1) h2)];exact h3
theorem dN.stay{G:Nat→Prop}{w w':World}{A:Option Addr}{l:List Int}{c:Nat}(h:dN G w A l c)(hs:vq G w w'):dN G w' A l c :=
 ⟨⟨qg2 h.at_.ints h.in_ hs,h.at_.cap,h.at_.nil⟩,h.in_⟩
theorem dN.mono{G G':Nat→Prop}{w:World}{A:Option Addr}{l:List Int}{c:Nat}(h:dN G w A l c)(hg:∀j,G j→G' j):dN G' w A l c:=⟨h.at_,fun hl=>(h.in_ hl).mono hg⟩
theorem dN.none(G:Nat→Prop)(w:World):dN G w none [] 0:=⟨yU.none w,fun _=>InS.none G⟩
theorem dN.qrl{G:Nat→Prop}{w0 w w':World}{A:Option Addr}{l:List Int}{c:Nat}(h:ib.New w w' A l c)(hg:∀j,w.heap.size≤j→j<w'.heap.size→G j)(hn:∀b o s,A=some ⟨b,o,s⟩→s=Option.none):dN G w' A l c :=
 ⟨h.sl,fun _ b o s e=>by
  obtain rfl:=hn b o s e;have:=h.new b o e;exact hg b this.1 this.2⟩
structure fQ(G:Nat→Prop)(w:World)(A:Option Addr)(xs:List Sp):Prop where
 at_:∀i (h:i<xs.length),∃b o B c,A=some ⟨b,o,none⟩∧b<w.heap.size∧w.cell? ⟨b,o+i*4,none⟩=some (.int .u64 (xs[i].g.1:Int))∧w.cell? ⟨b,o+i*4+1,none⟩=some (.int .u64 (xs[i].g.2:Int)) ∧
  w.cell? ⟨b,o+i*4+2,none⟩=some (.slice B xs[i].qp.length c)∧w.cell? ⟨b,o+i*4+3,none⟩=some (.bool xs[i].hid)∧dN G w B xs[i].qp c∧zV xs[i].g
 in_:0<xs.length→InS G A
theorem fQ.stay{G:Nat→Prop}{w w':World}{A:Option Addr}{xs:List Sp}(h:fQ G w A xs)(hs:vq G w w'):fQ G w' A xs:=by
 refine⟨fun i hi=>?_,h.in_⟩;obtain⟨b,o,B,c,h1,h2,h3,h4,h5,h6,h7,h8⟩:=h.at_ i hi;have hb:=hs.2 b (h.in_ (by omega) b o none h1) h2;exact⟨b,o,B,c,h1,Nat.lt_of_lt_of_le h2 hs.1,by rw[World.cell?_of_block (a:=⟨b,o+i*4,none⟩) hb];exact h3,by rw[World.cell?_of_block (a:=⟨b,o+i*4+1,none⟩) hb];exact h4,
  by rw[World.cell?_of_block (a:=⟨b,o+i*4+2,none⟩) hb];exact h5,by rw[World.cell?_of_block (a:=⟨b,o+i*4+3,none⟩) hb];exact h6,h7.stay hs,h8⟩
theorem fQ.mono{G G':Nat→Prop}{w:World}{A:Option Addr}{xs:List Sp}(h:fQ G w A xs)(hg:∀j,G j→G' j):fQ G' w A xs:=by
 refine⟨fun i hi=>?_,fun hl=>(h.in_ hl).mono hg⟩;obtain⟨b,o,B,c,h1,h2,h3,h4,h5,h6,h7,h8⟩:=h.at_ i hi;exact⟨b,o,B,c,h1,h2,h3,h4,h5,h6,h7.mono hg,h8⟩
theorem fQ.sns{G:Nat→Prop}{w:World}{A:Option Addr}{xs:List Sp}(h:fQ G w A xs):ji w A xs:=by
 intro i hi;obtain⟨b,o,B,c,h1,h2,h3,h4,h5,h6,h7,h8⟩:=h.at_ i hi;exact⟨b,o,B,c,h1,h2,h3,h4,h5,h6,h7.at_,h8⟩
theorem fQ.nil(G:Nat→Prop)(w:World):fQ G w none []:=⟨fun i h=>absurd h (by simp),fun _=>InS.none G⟩
theorem fQ.take{G:Nat→Prop}{w:World}{A:Option Addr}{xs:List Sp}(h:fQ G w A xs)(n:Nat):fQ G w A (xs.take n):=by
 refine⟨fun i hi=>?_,fun hl=>h.in_ (by rw[List.length_take]at hl;omega)⟩;have hl:i<xs.length:=by rw[List.length_take]at hi;omega
 have e:(xs.take n)[i]=xs[i]:=by simp
 rw[e];exact h.at_ i hl
structure kj(G:Nat→Prop)(w:World)(A0 A1 A2:Option Addr)(c0 c1 c2:Nat)(m:Mt):Prop where
 live:dN G w A0 m.live c0
 qd:fQ G w A1 m.qd
 room:m.qd.length≤c1∧(A1=none→m.qd.length=0∧c1=0)
 qp:dN G w A2 m.tok.qp c2
 base:zV m.tok.base
 target:zV m.tok.target
 next:qA m.tok.next
 all:qA m.tok.all
section
variable {G G':Nat→Prop} {w w':World} {A0 A1 A2:Option Addr} {c0 c1 c2:Nat} {m:Mt}
theorem kj.stay(h:kj G w A0 A1 A2 c0 c1 c2 m)(hs:vq G w w'):kj G w' A0 A1 A2 c0 c1 c2 m :=
 ⟨h.live.stay hs,h.qd.stay hs,h.room,h.qp.stay hs,h.base,h.target,h.next,h.all⟩
theorem kj.mono(h:kj G w A0 A1 A2 c0 c1 c2 m)(hg:∀j,G j→G' j):kj G' w A0 A1 A2 c0 c1 c2 m :=
 ⟨h.live.mono hg,h.qd.mono hg,h.room,h.qp.mono hg,h.base,h.target,h.next,h.all⟩
theorem kj.below(h:kj G w A0 A1 A2 c0 c1 c2 m)(hb:Below w.heap.size w w'):kj G w' A0 A1 A2 c0 c1 c2 m:=h.stay (vq.of_below hb)
theorem dN.bound{A:Option Addr}{l:List Int}{c:Nat}(h:dN G w A l c):dN (fun j=>G j∧j<w.heap.size) w A l c :=
 ⟨h.at_,fun hl b o s e=>⟨h.in_ hl b o s e,by
  obtain⟨b',o',e',h2,_⟩:=h.at_.ints 0 hl;rw[e]at e';injection e' with e'
  injection e' with e1
  rw[e1];exact h2⟩⟩
theorem fQ.bound{A:Option Addr}{xs:List Sp}(h:fQ G w A xs):fQ (fun j=>G j∧j<w.heap.size) w A xs:=by
 refine⟨fun i hi=>?_,fun hl b o s e=>⟨h.in_ hl b o s e,?_⟩⟩
 ·obtain⟨b,o,B,c,h1,h2,h3,h4,h5,h6,h7,h8⟩:=h.at_ i hi;exact⟨b,o,B,c,h1,h2,h3,h4,h5,h6,h7.bound,h8⟩
 ·obtain⟨b',o',B,c,e',h2,_⟩:=h.at_ 0 hl;rw[e]at e';injection e' with e'
  injection e' with e1
  rw[e1];exact h2
theorem kj.bound(h:kj G w A0 A1 A2 c0 c1 c2 m):kj (fun j=>G j∧j<w.heap.size) w A0 A1 A2 c0 c1 c2 m:=⟨h.live.bound,h.qd.bound,h.room,h.qp.bound,h.base,h.target,h.next,h.all⟩
theorem kj.mt(h:kj G w A0 A1 A2 c0 c1 c2 m):MtL w A0 A1 A2 c0 c1 c2 m:=⟨h.live.at_,h.qd.sns,h.room,h.qp.at_,h.base,h.target,h.next,h.all⟩
end
def vC (A0 A1 A2:Option Addr)(c0 c1 c2:Nat)(m:Mt)(pd:Nat)(lost:Bool):Array Value:=#[.slice A0 m.live.length c0,.slice A1 m.qd.length c1,.int .u64 (m.tok.base.1:Int),.int .u64 (m.tok.base.2:Int),.int .u64 (m.tok.target.1:Int),.int .u64 (m.tok.target.2:Int),.int .i64 m.tok.next,.int .i64 m.tok.all,.slice A2 m.tok.qp.length c2,.pointer (some ⟨pd,0,none⟩),.bool lost]
structure sH(o:Nat→Prop)(w:World)(v pd:Nat)(m:Mt)(lost:Bool)(A0 A1 A2:Option Addr)(c0 c1 c2:Nat):Prop where
 blk:qh w v 115 (vC A0 A1 A2 c0 c1 c2 m pd lost)
 tab:kj (fun j=>o j∧j≠v) w A0 A1 A2 c0 c1 c2 m
 sz:mtS m
 ct:xK w
 own:o v
 low:∀j,o j→j<w.heap.size
 gv:gN≠v
 tk:m.tok.target=(0,0)→m.tok=yg
def gI:jq:=fun o w v pd m lost=>∃A0 A1 A2 c0 c1 c2,sH o w v pd m lost A0 A1 A2 c0 c1 c2
section
variable {o:Nat→Prop} {w w':World} {v pd:Nat} {m:Mt} {lost:Bool} {A0 A1 A2:Option Addr} {c0 c1 c2:Nat}
theorem sH.stay(h:sH o w v pd m lost A0 A1 A2 c0 c1 c2)(hb:∀j,o j∨j=gN→w'.heap[j]?=w.heap[j]?)(hs:w.heap.size≤w'.heap.size):sH o w' v pd m lost A0 A1 A2 c0 c1 c2 :=
 ⟨h.blk.of_block (hb v (.inl h.own)),h.tab.stay ⟨hs,fun j hj _=>hb j (.inl hj.1)⟩,h.sz,vn h.ct hs (hb gN (.inr rfl)),h.own,fun j hj=>Nat.lt_of_lt_of_le (h.low j hj) hs,h.gv,h.tk⟩
theorem sH.below(h:sH o w v pd m lost A0 A1 A2 c0 c1 c2)(hb:Below w.heap.size w w'):sH o w' v pd m lost A0 A1 A2 c0 c1 c2 :=
 h.stay (fun j hj=>hb.block j (by
  rcases hj with hj|rfl
  ·exact h.low j hj
  ·exact xx h.ct)) hb.size
theorem gI.below(h:gI o w v pd m lost)(hb:Below w.heap.size w w'):gI o w' v pd m lost:=by
 obtain⟨A0,A1,A2,c0,c1,c2,h1⟩:=h;exact⟨A0,A1,A2,c0,c1,c2,h1.below hb⟩
theorem qjU(h:gI o w v pd m lost)(hb:∀j,o j∨j=gN→w'.heap[j]?=w.heap[j]?)(hs:w.heap.size≤w'.heap.size):gI o w' v pd m lost:=by
 obtain⟨A0,A1,A2,c0,c1,c2,h1⟩:=h;exact⟨A0,A1,A2,c0,c1,c2,h1.stay hb hs⟩
theorem sI (h:gI o w v pd m lost):∀j,o j∨j=gN→j<w.heap.size:=by
 obtain⟨A0,A1,A2,c0,c1,c2,h1⟩:=h;intro j hj;rcases hj with hj|rfl
 ·exact h1.low j hj
 ·exact xx h1.ct
theorem qn0(h:gI o w v pd m lost):xK w:=by
 obtain⟨A0,A1,A2,c0,c1,c2,h1⟩:=h;exact h1.ct
theorem qn1(h:gI o w v pd m lost):mB m:=by
 obtain⟨A0,A1,A2,c0,c1,c2,h1⟩:=h;exact h1.tab.mt.mB
theorem qT {o1 o2:Nat→Prop}{d:DD}(h:VP gI w o1 o2 v pd d m lost)(hb:Below w.heap.size w w'):VP gI w' o1 o2 v pd d m lost :=
 ⟨h.is.below hb,h.dk.keep hb.size (fun j hj=>hb.block j (eH h.dk j hj)),h.dj⟩
structure qrm(w:World)(v:Nat)(A0 A1 A2:Option Addr)(c0 c1 c2:Nat)(m:Mt)(pd:Nat)(lost:Bool):Prop where
 lt:v<w.heap.size
 k0:w.cell? ⟨v,0,none⟩=some (.slice A0 m.live.length c0)
 k1:w.cell? ⟨v,1,none⟩=some (.slice A1 m.qd.length c1)
 k2:w.cell? ⟨v,2,none⟩=some (.int .u64 (m.tok.base.1:Int))
 k3:w.cell? ⟨v,3,none⟩=some (.int .u64 (m.tok.base.2:Int))
 k4:w.cell? ⟨v,4,none⟩=some (.int .u64 (m.tok.target.1:Int))
 k5:w.cell? ⟨v,5,none⟩=some (.int .u64 (m.tok.target.2:Int))
 k6:w.cell? ⟨v,6,none⟩=some (.int .i64 m.tok.next)
 k7:w.cell? ⟨v,7,none⟩=some (.int .i64 m.tok.all)
 k8:w.cell? ⟨v,8,none⟩=some (.slice A2 m.tok.qp.length c2)
 k9:w.cell? ⟨v,9,none⟩=some (.pointer (some ⟨pd,0,none⟩))
 uO:w.cell? ⟨v,10,none⟩=some (.bool lost)
theorem sH.cells(h:sH o w v pd m lost A0 A1 A2 c0 c1 c2):qrm w v A0 A1 A2 c0 c1 c2 m pd lost :=
 ⟨h.blk.lt,h.blk.cell 0,h.blk.cell 1,h.blk.cell 2,h.blk.cell 3,h.blk.cell 4,h.blk.cell 5,h.blk.cell 6,h.blk.cell 7,h.blk.cell 8,h.blk.cell 9,h.blk.cell 10⟩
end
end Go.Proofs.YtdpbdkacngaemaaGreatDoor.vt.pg
namespace Go.Proofs.YtdpbdkacngaemaaGreatDoor.ib
open _root_.Go.Proofs.Tryz Go Go.RowKit
theorem uX {P:Program}(w:World)(g o:Nat)(t ty:TypeId)(cs:Array Value)(xs:List Value)(fr:Nat × Nat)(d:TypeDesc)(hg:w.heap[g]?=some (.cells cs t fr))
    (hu:P.underlying ty=some d) (hd:(match d with | .struct _ | .array _ _=>true|_=>false)=true) (hi:(P.info? ty).map (·.size)=some xs.length) (hx:∀j u,xs[j]?=some u→cs[o+j]?=some u) :
    (loadVar ty ⟨g,o,none⟩).run P w=.ok (.agg xs.toArray) w:=by
 have hl:(loadCells ⟨g,o,none⟩ xs.length).run P w=.ok xs.toArray w :=
  run_loadCells_list (P:=P) w ⟨g,o,none⟩ xs (fun j v hv=>by
   rw[addr_add,cell_of_row w g (o+j) cs t fr hg];exact hx j v hv)
 cases hq:P.info? ty with
 | none=>simp[hq]at hi
 | some i =>
  have hs:i.size=xs.length:=by simpa[hq]using hi
  have hagg:(isAgg ty).run P w=.ok true w:=by
   unfold isAgg;rw[Sem.run_bind,run_underlying hu w];cases d <;> simp_all
  simp[loadVar,Sem.run_bind,hagg,sizeOf,typeInfo,hq,hs,hl]
theorem xG {ρ:Operand→Value}{o:Oper}{P:Program}(w:World)(t:TypeId)(c c':Array Value)(x y:Operand)(ho:o.op=.store t x y)(hx:ρ x=.pointer (some ⟨w.heap.size,0,none⟩))(hy:ρ y=.agg c')
    (hi:(P.info? t).map (·.size)=some c'.size) (dw:c.size=c'.size) (h1:c'.all (·.oneCell')=true) :
    (execOp ρ o).run P (w.alloc (.cells c t))=.ok .skip (w.alloc (.cells c' t)):=by
 have hr:=run_storeAt_new (P:=P) w t c c' hi dw h1;simp[execOp,ho,hx,hy,hr,Result.andThen]
theorem qg3{l:List Value}(h:∀v∈l,v.oneCell'=true):l.toArray.all (·.oneCell')=true:=by
 rw[Array.all_eq_true'];intro u hu;exact h u (by simpa using hu)
theorem qjV{ρ:Operand→Value}{o:Oper}{P:Program}{w:World}(t:TypeId)(x:Operand)(cs:Array Value)(ho:o.op=.box t x)(hx:ρ x=.agg cs)(hs:(P.info? t).map (·.size)=some cs.size)(h1:cs.all (·.oneCell')=true) :
    (execOp ρ o).run P w=.ok (.value (.pointer (some ⟨w.heap.size,0,none⟩))) (w.alloc (.cells cs t)):=by
 simp[execOp,ho,hx,Instr.box,Result.andThen,go_sem,Value.cells]
theorem iD {P:Program}(w:World)(t ty e:TypeId)(i:TypeInfo)(z:Value)(size bytes:Nat)(ht:P.underlying t=some (.slice e))(hi:P.info? e=some i)(hz:i.zero=some z)(hsize:i.size=size)(hby:i.bytes=bytes)
    (A:Option Addr) (n:Nat) (xs:List Value) (fG:xs.length=n*size) (hA:A=none→n=0) (holds:∀b,A=some b→∀j u,xs[j]?=some u→w.cell? (b.add j)=some u)
    (a:Addr) (m c:Nat) (news:List Value) (hl:news.length=m*size) (hnews:∀j u,news[j]?=some u→w.cell? (a.add j)=some u) (h0:0<m)
    (h63:n+m≤maxLen) (hbytes:(n+m)*bytes≤140737488355328) :
    ∃cap cur w',(Builtin.append_ #[t,t] ty #[.slice A n n,.slice (some a) m c]).run P w=.ok (.slice (some ⟨w.heap.size,0,none⟩) (n+m) cap) w'∧Below w.heap.size w w'∧qh w' w.heap.size e cur ∧
     cur.toList.take ((n+m)*size)=xs++news∧n+m≤cap∧cap≤maxLen∧w'.heap.size=w.heap.size+1:=by
 subst hsize;subst hby;have q0l:n+m≤9223372036854775807:=by simp only[maxLen]at h63;omega
 have hlen:(xs++news).length=(n+m)*i.size:=by rw[List.length_append,fG,hl,Nat.add_mul]
 have nQ:∀cs,Below w.heap.size w (w.drew.alloc (.cells cs e)):=fun cs=>⟨rfl,rfl,rfl,by simp,fun k hk=>heap_alloc_old w.drew _ hk⟩;cases A with
 | none =>
  obtain rfl:=hA rfl;have hx:xs=[]:=List.eq_nil_of_length_eq_zero (by simpa using fG);subst hx;have hr:=run_append_nil (P:=P) w t ty e i z ht hi hz a m c news hl hnews h0 (by omega) (by have hb:=hbytes;simp only[Nat.zero_add]at hb;omega);rw[Nat.zero_add,List.nil_append];refine⟨_,_,_,hr,nQ _,heap_alloc_new w.drew _,?_,grownCap_ge _ _ _ _,grownCap_le_maxLen _ _ _ _ (by omega),by simp⟩;simp only[Array.toList_append];rw[← hl];exact List.take_left
 | some b =>
  have hr:=run_append_grow (P:=P) w t ty e i z ht hi hz b n n xs fG (holds b rfl) a m c news hl hnews (by omega) (by omega) (growslice_fits (by omega) hbytes);refine⟨_,_,_,hr,nQ _,heap_alloc_new w.drew _,?_,grownCap_ge _ _ _ _,grownCap_le_maxLen _ _ _ _ h63,by simp⟩;simp only[Array.toList_append,List.append_assoc];rw[← List.append_assoc,← hlen];exact List.take_left
theorem mv {P:Program}{o:Oper}{a:Act}{w:World}{K:Act→World→Prop}{Q:Exit→Act→World→Prop}(s x:Operand)(t:TypeId)
    (ho:o.op=.call { callee:=.builtin .append,args:=#[s,x],argTypes:=#[t,t] })
    (e:TypeId) (i:TypeInfo) (z:Value) (size bytes:Nat) (ht:P.underlying t=some (.slice e)) (hi:P.info? e=some i) (hz:i.zero=some z)
    (hsize:i.size=size) (hby:i.bytes=bytes) (A:Option Addr) (n:Nat) (xs:List Value) (hs:a.eval s=.slice A n n)
    (fG:xs.length=n*size) (hA:A=none→n=0) (holds:∀b,A=some b→∀j u,xs[j]?=some u→w.cell? (b.add j)=some u)
    (ad:Addr) (m c:Nat) (news:List Value) (hx:a.eval x=.slice (some ad) m c) (hl:news.length=m*size) (hnews:∀j u,news[j]?=some u→w.cell? (ad.add j)=some u) (h0:0<m)
    (h63:n+m≤maxLen) (hbytes:(n+m)*bytes≤140737488355328)
    (h:∀cap cur w',Below w.heap.size w w'→qh w' w.heap.size e cur→cur.toList.take ((n+m)*size)=xs++news→n+m≤cap→cap≤maxLen→w'.heap.size=w.heap.size+1→K (a.put o.dst (.slice (some ⟨w.heap.size,0,none⟩) (n+m) cap)) w'):o.wp P a w K Q:=by
 obtain⟨cap,cur,w',hrun,h2,h3,h4,h5,h6,h7⟩:=iD (P:=P) w t o.type e i z size bytes ht hi hz hsize hby A n xs fG hA holds ad m c news hl hnews h0 h63 hbytes;unfold Oper.wp;simp[execOp,ho,resolve,invoke,builtin,hs,hx,hrun,Result.andThen];exact h cap cur w' h2 h3 h4 h5 h6 h7
theorem setRow_size(w:World)(g:Nat)(c:Array Value):(w.setRow g c).heap.size=w.heap.size:=by
 unfold World.setRow;simp
end Go.Proofs.YtdpbdkacngaemaaGreatDoor.ib
namespace Go.Proofs.YtdpbdkacngaemaaGreatDoor.vt.pg
open _root_.Go.Proofs.Tryz Go Go.RowKit ib mt im sp
theorem aG {ρ:Operand→Value}{o:Oper}{w:World}(x y:Operand)(n:Nat)(ho:o.op=.makeSlice 80 x y)(hx:ρ x=.int .i64 (n:Int))(hy:ρ y=.int .i64 (n:Int))(h:n≤1000) :
    (execOp ρ o).run prog w=.ok (.value (.slice (some ⟨w.heap.size,0,none⟩) n n)) (w.alloc (.cells (qj (List.replicate n 0)) 3)):=by
 have:=oO (n:Int) (by omega) (by omega) w;simp only[Int.toNat_natCast]at this;simp[execOp,ho,hx,hy,this,Result.andThen]
theorem qpt:(prog.info? 3).map (·.size)=some 1:=by kernel_rfl
def qrn (l:List Int)(w:World)(e:Ending)(w':World):Prop:=e=.returned (.slice (some ⟨w.heap.size,0,none⟩) l.length l.length)∧qh w' w.heap.size 3 (qj l)∧Below w.heap.size w w'
theorem qg4{w:World}{A:Option Addr}{l:List Int}{c:Nat}(h:yU w A l c)(h0:l.length≠0):∃b o,A=some ⟨b,o,none⟩:=by
 obtain⟨b,o,h1,_⟩:=h.ints 0 (by omega);exact⟨b,o,h1⟩
theorem vR (A:Option Addr)(c:Nat)(l:List Int)(w:World)(h:yU w A l c)(hl:l.length≤1000):Calls prog 98 #[.slice A l.length c] w (qrn l w):=by
 have hb:=(Below.refl w.heap.size w).alloc (Nat.le_refl _) (.cells (qj (List.replicate l.length 0)) 3);have hk:=qh.new w 3 (qj (List.replicate l.length 0));have hh:=h.below hb;obtain⟨W1,hW1⟩:=QE (w.alloc (.cells (qj (List.replicate l.length 0)) 3));rw[hW1]at hb hk hh;have qv7:∃W2,(Builtin.copy_ #[80,80] 3 #[.slice (some ⟨w.heap.size,0,none⟩) l.length l.length,.slice A l.length c]).run prog W1=.ok (.int .i64 (l.length:Int)) W2∧qh W2 w.heap.size 3 (qj l)∧Below w.heap.size w W2:=by
  by_cases h0:l.length=0
  ·refine⟨W1,?_,?_,hb⟩
   ·have:=run_copy_none (P:=prog) W1 80 80 3 3 (some ⟨w.heap.size,0,none⟩) A l.length l.length l.length c underlying80 qpt (by rw[h0];rfl);rw[this,h0];rfl
   ·obtain rfl:l=[]:=List.length_eq_zero_iff.1 h0;exact hk
  ·obtain⟨b,o,rfl⟩:=qg4 h h0;have:=run_copy_row prog W1 80 80 3 3 w.heap.size 0 l.length l.length ⟨b,o,none⟩ l.length c (qj (List.replicate l.length 0)) 3 (l.map (Value.int .i64)) underlying80 qpt hk (by simp) (fun j v hj=>by
    have hjl:j<l.length:=by
     have:=(List.getElem?_eq_some_iff.1 hj).1;simpa using this
    obtain⟨b',o',e,h1,h2,_⟩:=hh.ints j hjl;simp only[Option.some.injEq,Addr.mk.injEq,and_true]at e;obtain⟨rfl,rfl⟩:=e;rw[addr_add,h2];simpa[hjl]using hj) (by simp[qj]) (fun v hv=>by
    obtain⟨z,_,rfl⟩:=List.mem_map.1 hv;rfl)
   have e:((qj (List.replicate l.length 0)).toList.take 0++l.map (Value.int .i64)++(qj (List.replicate l.length 0)).toList.drop (0+(l.map (Value.int .i64)).length)).toArray=qj l:=by
    simp[qj]
   rw[e]at this;refine⟨_,?_,setRow_heap W1 w.heap.size (qj (List.replicate l.length 0)) (qj l) 3 (0,0) hk,?_⟩
   ·rw[this];simp[goInt]
   ·exact vI hb _ (Nat.le_refl _)
 obtain⟨W2,hc,hk2,hb2⟩:=qv7;have wj:=QH hk2;have qG:=QH hb2;clear h hb hk hh hk2 hb2;go_enter func98,ntmps98;go_wp2_with (at_make;refine qx rfl (aG _ _ l.length rfl rfl rfl (by omega)) ?_);go_ret;exact⟨rfl,wj.out,qG.out⟩
theorem qrn.sl{l:List Int}{w w':World}{e:Ending}(h:qrn l w e w')(hz:∀z∈l,qA z)(G:Nat→Prop)(hG:G w.heap.size):dN G w' (some ⟨w.heap.size,0,none⟩) l l.length :=
 ⟨⟨qh.nums h.2.1 hz,Nat.le_refl _,fun h=>by cases h⟩,fun _ b o s e=>by
  simp only[Option.some.injEq,Addr.mk.injEq]at e;rw[← e.1];exact hG⟩
def SnI (G:Nat→Prop)(w:World)(x:aZ):Prop:=∃B c,x.2=.slice B x.1.qp.length c∧dN G w B x.1.qp c∧zV x.1.g
theorem SnI.stay{G:Nat→Prop}{w w':World}{x:aZ}(h:SnI G w x)(hs:vq G w w'):SnI G w' x:=by
 obtain⟨B,c,h1,h2,h3⟩:=h;exact⟨B,c,h1,h2.stay hs,h3⟩
theorem qjW:∀(l:List aZ) (j:Nat) (u:Value),(zt l)[j]?=some u→∃i k,∃h:i<l.length,k<4∧j=i*4+k∧(cQ l[i])[k]?=some u:=by
 intro l j u h;have hj:j<l.length*4:=by
  have:=(List.getElem?_eq_some_iff.1 h).1;rw[yD]at this;exact this
 have hi:j/4<l.length:=by omega
 have hk:j%4<4:=Nat.mod_lt _ (by omega);refine⟨j/4,j%4,hi,hk,by omega,?_⟩;rw[← xE l (j/4) hi (j%4) hk,show j/4*4+j%4=j by omega];exact h
theorem fQ.row{G:Nat→Prop}{w:World}{A:Option Addr}{sn:List Sp}(h:fQ G w A sn):∃xs:List aZ,xs.map (·.1)=sn∧(∀x∈xs,SnI G w x) ∧
    ∀j u,(zt xs)[j]?=some u→∃b o,A=some ⟨b,o,none⟩∧b<w.heap.size∧w.cell? ⟨b,o+j,none⟩=some u:=by
 obtain⟨vs,hl,hv⟩:=fp (p:=fun i (v:Value)=>∃(hi:i<sn.length),SnI G w (sn[i],v)∧∀k u,k<4→(cQ (sn[i],v))[k]?=some u→∃b o,A=some ⟨b,o,none⟩∧b<w.heap.size∧w.cell? ⟨b,o+i*4+k,none⟩=some u) sn.length (fun i hi=>by
  obtain⟨b,o,B,c,h1,h2,h3,h4,h5,h6,h7,h8⟩:=h.at_ i hi;refine⟨.slice B sn[i].qp.length c,hi,⟨B,c,rfl,h7,h8⟩,fun k u hk hu=>⟨b,o,h1,h2,?_⟩⟩
  match k,hk with
  | 0,_=>simp[cQ]at hu;subst hu;exact h3
  | 1,_=>simp[cQ]at hu;subst hu;exact h4
  | 2,_=>simp[cQ]at hu;subst hu;exact h5
  | 3,_=>simp[cQ]at hu;subst hu;exact h6)
 refine⟨sn.zip vs,?_,fun x hx=>?_,fun j u hj=>?_⟩
 ·rw[List.map_fst_zip (by omega)]
 ·obtain⟨i,hi,rfl⟩:=List.getElem_of_mem hx;have hi':i<vs.length:=by simp at hi;omega
  obtain⟨_,h1,_⟩:=hv i hi';simpa using h1
 ·obtain⟨i,k,hi,hk,rfl,hu⟩:=qjW _ _ _ hj;have hi':i<vs.length:=by simp at hi;omega
  obtain⟨_,_,h2⟩:=hv i hi';obtain⟨b,o,h3,h4,h5⟩:=h2 k u hk (by simpa using hu);exact⟨b,o,h3,h4,by rw[← Nat.add_assoc];exact h5⟩
theorem fQ.qjX{G:Nat→Prop}{w:World}{g:Nat}{xs:List aZ}(hg:G g)(hl:g<w.heap.size)(hc:∀j u,(zt xs)[j]?=some u→w.cell? ⟨g,j,none⟩=some u)(hx:∀x∈xs,SnI G w x):fQ G w (some ⟨g,0,none⟩) (xs.map (·.1)):=by
 refine⟨fun i hi=>?_,fun _ b o s e=>by
  simp only[Option.some.injEq,Addr.mk.injEq]at e;rw[← e.1];exact hg⟩
 have hix:i<xs.length:=by simpa using hi
 have e:(xs.map (·.1))[i]=xs[i].1:=by simp
 rw[e];obtain⟨B,c,h1,h2,h3⟩:=hx _ (List.getElem_mem hix);refine⟨g,0,B,c,rfl,hl,?_,?_,?_,?_,h2,h3⟩
 ·rw[Nat.zero_add];have:=hc (i*4+0) _ (xE xs i hix 0 (by omega));exact this
 ·rw[Nat.zero_add];exact hc (i*4+1) _ (xE xs i hix 1 (by omega))
 ·rw[Nat.zero_add,← h1];exact hc (i*4+2) _ (xE xs i hix 2 (by omega))
 ·rw[Nat.zero_add];exact hc (i*4+3) _ (xE xs i hix 3 (by omega))
theorem uH {w:World}{g n:Nat}{t:TypeId}{cur:Array Value}{l:List Value}(h:qh w g t cur)(ht:cur.toList.take n=l):∀j u,l[j]?=some u→w.cell? ⟨g,j,none⟩=some u:=by
 intro j u hu;rw[h.cell j];rw[← ht,List.getElem?_take]at hu;split at hu
 ·simpa using hu
 ·cases hu
end Go.Proofs.YtdpbdkacngaemaaGreatDoor.vt.pg
namespace Go.Proofs.YtdpbdkacngaemaaGreatDoor.vt.pg
open _root_.Go.Proofs.Tryz Go Go.RowKit ib wi im mt mt.pg
theorem qv8{w:World}{B:Nat}{A:Option Addr}{n c:Nat}{zs:List Int}(h:qV w B (.slice A n c) zs):InS (fun j=>B≤j) A:=by
 rcases h.2 with⟨e,h0⟩|⟨g,cap,cur,e,hg,hh,hcc,hm,hcs,yb⟩
 ·cases e;exact InS.none _
 ·cases e;intro b o s e;cases e;exact hg
theorem qds{w:World}{B:Nat}{A:Option Addr}{n c:Nat}{zs:List Int}(h:qV w B (.slice A n c) zs)(hz:∀z∈zs,qA z):dN (fun j=>B≤j) w A zs c:=by
 obtain⟨A',c',e,h1⟩:=qes h hz;have h2:=qv8 h;cases e;exact⟨h1,fun _=>h2⟩
theorem qv9{w:World}{B:Nat}{A:Option Addr}{n c:Nat}{xs:List aZ}(h:vG w B (.slice A n c) xs)(hz:∀x∈xs,∀z∈x.1.qp,qA z)(hg:∀x∈xs,zV x.1.g) :
    fQ (fun j=>B≤j) w A (xs.map (·.1))∧((xs.map (·.1)).length≤c∧(A=none→(xs.map (·.1)).length=0∧c=0)):=by
 obtain⟨A',c',e,h1,h2⟩:=h.view hz hg;simp only[Value.slice.injEq]at e;obtain⟨rfl,hn,rfl⟩:=e;refine⟨?_,h2⟩;rcases h.1.2 with⟨e,h0⟩|⟨g,cap,cur,e,hgB,hh,hcc,hm,hcs,yb⟩
 ·simp only[Value.slice.injEq]at e;obtain⟨rfl,_,rfl⟩:=e;obtain rfl:xs=[]:=List.length_eq_zero_iff.1 h0;exact fQ.nil _ _
 ·simp only[Value.slice.injEq]at e;obtain⟨rfl,_,rfl⟩:=e;refine fQ.qjX hgB (Array.getElem?_eq_some_iff.1 hh).1 (fun j u hu=>?_) (fun x hx=>?_)
  ·rw[cell_of_row w g j cur 141 (0,0) hh];rw[← yb,List.getElem?_take]at hu;split at hu
   ·simpa using hu
   ·cases hu
  ·have hi:=h.2 x hx;obtain⟨A1,c1,e1⟩:=yq hi;rw[e1]at hi;exact⟨A1,c1,e1,qds hi (hz x hx),hg x hx⟩
theorem qdt{w:World}{B:Nat}{A0 A1 A2:Option Addr}{n0 n1 n2 c0 c1 c2:Nat}{m:Mt}(h:Own w B (.slice A0 n0 c0) (.slice A1 n1 c1) (.slice A2 n2 c2) m):kj (fun j=>B≤j) w A0 A1 A2 c0 c1 c2 m:=by
 have i64:∀ {z:Int},0≤z∧z≤1048576→qA z:=fun h=>by unfold qA;omega
 obtain⟨xs,a,b,c,d⟩:=h.at_;obtain⟨hf,ht⟩:=h.ok;rw[← d]at hf;have hsn:∀x∈xs,ya x.1.qp∧zV x.1.g:=fun x hx=>⟨(hf.sn _ (List.mem_map_of_mem hx)).1,(hf.sn _ (List.mem_map_of_mem hx)).2.1⟩;have hb:=qv9 b (fun x hx z hz=>i64 ((hsn x hx).1 z hz)) (fun x hx=>(hsn x hx).2);rw[d]at hb;exact⟨qds a (fun z hz=>i64 (hf.live z hz)),hb.1,hb.2,qds c (fun z hz=>i64 (ht.qp z hz)),ht.base,ht.target,ht.next,ht.all⟩
def qvA (m:Mt)(w:World)(e:Ending)(w':World):Prop:=∃A0 A1 A2 c0 c1 c2,e=.returned (.tuple #[.agg (zw A0 A1 A2 c0 c1 c2 m),.int .i64 0])∧kj (fun j=>w.heap.size≤j) w' A0 A1 A2 c0 c1 c2 m∧Below w.heap.size w w'
theorem qn2(s:ByteArray)(w:World)(hs:s.size≤100000)(M:Mt)(hD:iX (bl s)=(M,0)):Calls prog 52 #[.string s] w (qvA M w):=by
 have HDI:Hid (wx (mP (some (bl s)))=(bl s,0)∧mP (some (bl s))=M):=by
  have h:=qqq (bl s);rw[hD]at h;unfold Hid;split at h
  ·rename_i h1;exact⟨h1,(Prod.mk.inj h).1.symm⟩
  ·cases (Prod.mk.inj h).2
 have hb0:=(Below.refl w.heap.size w).alloc (Nat.le_refl _) (.cells (mZ (.slice none 0 0) (.slice none 0 0)) 103);have hA0:=qh.new w 103 (mZ (.slice none 0 0) (.slice none 0 0));obtain⟨W0,hW0⟩:=QE (w.alloc (.cells (mZ (.slice none 0 0) (.slice none 0 0)) 103));rw[hW0]at hb0 hA0;have jT:=QH hb0;have iu:=QH hA0;have po:=QH hs;have HN:=QH (rC s W0 (by omega));clear hb0 hA0 hs hD;unfold mZ at hW0;go_enter func52,ntmps52;go_upto_region 1 with fail;try rw[hW0]
 clear hW0;go_wp2_with fail;refine HN.out.mono ?_;rintro e W1 ⟨c,rfl,hc,eI,hb1⟩;have hps:PS W1 c (some (bl s)):=eI;have nK:=QH hps;have qU:=QH (qc jT.out hb1);have cB:=QH (iu.out.below hb1);have yX:Hid (w.heap.size≤W1.heap.size):=qU.out.size;have HC:Hid (w.heap.size≤c∧w.heap.size<W1.heap.size):=⟨Nat.le_trans jT.out.size hc,cB.out.lt⟩;clear hc eI hb1 hps jT iu HN;go_wp2_with fail;refine(mt.pg.jL nK.out).mono ?_;rintro e W2 ⟨v0,v1,v2,rfl,ho,hbt⟩;have qG:Hid (Below w.heap.size w W2):=qU.out.trans (hbt.below (fun j hj=>by unfold Tc at hj;rw[hj];exact HC.out.1) qU.out.size);obtain⟨y,hy⟩:=nK.out.blk;have uT:=QH (cB.out.of_block (hbt.block _ cB.out.lt (kH cB.out hy (by decide))));have HSM:Hid (mtS (mP (some (bl s)))):=qqQ ho.ok.1 ho.ok.2;obtain⟨m,hm⟩:=QE (mP (some (bl s)));rw[hm]at ho HDI HSM ⊢;have wk:=QH ho;obtain⟨xs,o0,o1,o2,o3⟩:=ho.at_;obtain⟨A0,c0,hv0⟩:=yq o0;obtain⟨A1,c1,hv1⟩:=yq o1.1;obtain⟨A2,c2,hv2⟩:=yq o2;have hlx:xs.length=m.qd.length:=by rw[← o3,List.length_map]
 rw[hlx]at hv1;subst hv0 hv1 hv2;clear ho o0 o1 o2 o3 hlx hy hm hbt nK qU cB;have hb3:=(Below.refl W2.heap.size W2).alloc (Nat.le_refl _) (.cells (mC (.slice A0 m.live.length c0) (.slice A1 m.qd.length c1) (.slice A2 m.tok.qp.length c2) m.tok) 103);have hM3:=qh.new W2 103 (mC (.slice A0 m.live.length c0) (.slice A1 m.qd.length c1) (.slice A2 m.tok.qp.length c2) m.tok);obtain⟨W3,hW3⟩:=QE (W2.alloc (.cells (mC (.slice A0 m.live.length c0) (.slice A1 m.qd.length c1) (.slice A2 m.tok.qp.length c2) m.tok) 103));rw[hW3]at hb3 hM3;have zG:=QH (qc qG.out hb3);have fx:=QH (uT.out.below hb3);have HO3:=QH (wk.out.kp (r:=1000000) (Kp.of_below hb3) (by decide) (by decide));obtain⟨gm,hgm⟩:=QE W2.heap.size;rw[hgm]at hM3;have HM3:=QH hM3;unfold mC at hW3 ⊢;clear hb3 qG uT wk;go_upto_region 2 with fail;try rw[hW3]
 try rw[hgm]
 clear hW3 hgm;have m0:=hM3.cell 0;have m1:=hM3.cell 1;have m2:=hM3.cell 2;have m3:=hM3.cell 3;have m4:=hM3.cell 4;have m5:=hM3.cell 5;have m6:=hM3.cell 6;have m7:=hM3.cell 7;have m8:=hM3.cell 8;simp only[mC,QA,QB,QC]at m0 m1 m2 m3 m4 m5 m6 m7 m8;have hlm:=hM3.lt;have HE:=QH (qe9 _ m W3 HO3.out.mt HSM.out);unfold mC at HE;clear hM3;go_wp2_with fail;refine HE.out.mono ?_;rintro e W4 ⟨rfl,hb4⟩;have zY:=QH (qc zG.out hb4);have ix:=QH (fx.out.below hb4);have sJ:=QH (HO3.out.kp (r:=1000000) (Kp.of_below hb4) (by decide) (by decide));have hM4:=HM3.out.below hb4;clear hb4 HE zG fx HO3 HM3 m0 m1 m2 m3 m4 m5 m6 m7 m8 hlm;have a0:=ix.out.cell 0;have a1:=ix.out.cell 1;have a2:=ix.out.cell 2;have a3:=ix.out.cell 3;have a4:=ix.out.cell 4;have a5:=ix.out.cell 5;have a6:=ix.out.cell 6;have a7:=ix.out.cell 7;have a8:=ix.out.cell 8;have m0:=hM4.cell 0;have m1:=hM4.cell 1;have m2:=hM4.cell 2;have m3:=hM4.cell 3;have m4:=hM4.cell 4;have m5:=hM4.cell 5;have m6:=hM4.cell 6;have m7:=hM4.cell 7;have m8:=hM4.cell 8;simp only[mC,mZ,QA,QB,QC]at m0 m1 m2 m3 m4 m5 m6 m7 m8 a0 a1 a2 a3 a4 a5 a6 a7 a8;have f0:=ix.out.frozen 0;have f1:=ix.out.frozen 1;have f2:=ix.out.frozen 2;have f3:=ix.out.frozen 3;have f4:=ix.out.frozen 4;have f5:=ix.out.frozen 5;have f6:=ix.out.frozen 6;have f7:=ix.out.frozen 7;have f8:=ix.out.frozen 8;have hlm:=hM4.lt;have dI:=ix.out.lt;clear hM4;have hres:qh W4 w.heap.size 103 (mC aq aq aq yg):=ix.out;obtain⟨hE,rfl⟩:=HDI.out;have HF1:Hid (qh (xC W4 w.heap.size (.slice A0 m.live.length c0) (.slice A1 m.qd.length c1) (.slice A2 m.tok.qp.length c2) m.tok) w.heap.size 103 (zw A0 A1 A2 c0 c1 c2 m)∧kj (fun j=>w.heap.size≤j) (xC W4 w.heap.size (.slice A0 m.live.length c0) (.slice A1 m.qd.length c1) (.slice A2 m.tok.qp.length c2) m.tok) A0 A1 A2 c0 c1 c2 m∧Below w.heap.size w (xC W4 w.heap.size (.slice A0 m.live.length c0) (.slice A1 m.qd.length c1) (.slice A2 m.tok.qp.length c2) m.tok)) :=
  ⟨p9 hres,(qdt (sJ.out.kp (qa2 hres) (by decide) (by decide))).mono (fun j hj=>Nat.le_trans yX.out hj),wS zY.out (Nat.le_refl _)⟩
 clear hres HDI sJ;obtain⟨r1,hr1⟩:=QE ((wx m).1);obtain⟨r2,hr2⟩:=QE ((wx m).2);rw[hE]at hr1 hr2;dsimp only at hr1 hr2;rw[hE];subst hr2;dsimp only;have hq:((str (bl s)).toList == s.toList)=true:=by rw[cJ];simp
 have HQ:=QH hq;clear hq hE;obtain⟨S1,hS1⟩:=QE (str (bl s));rw[hS1]at HQ ⊢;clear hS1 hr1;have hq:(S1.toList == s.toList)=true:=HQ.out;go_wp2_with fail;show bodyPost _ _ _ _ _ (xC W4 w.heap.size (.slice A0 m.live.length c0) (.slice A1 m.qd.length c1) (.slice A2 m.tok.qp.length c2) m.tok);obtain⟨WE,hWE⟩:=QE (xC W4 w.heap.size (.slice A0 m.live.length c0) (.slice A1 m.qd.length c1) (.slice A2 m.tok.qp.length c2) m.tok);have hf:=HF1.out;rw[hWE]at hf ⊢;have hl:=qe5 (v0:=.slice A0 m.live.length c0) (v1:=.slice A1 m.qd.length c1) (v2:=.slice A2 m.tok.qp.length c2) (t:=m.tok) hf.1;refine bodyPost_ret (v:=.tuple #[.agg (zw A0 A1 A2 c0 c1 c2 m),.int .i64 0]) ?_ rfl ⟨A0,A1,A2,c0,c1,c2,rfl,hf.2.1,hf.2.2⟩;exact jB results52 _ _ _ ⟨w.heap.size,0,none⟩ _ _ (by simp) (by simp) hl
end Go.Proofs.YtdpbdkacngaemaaGreatDoor.vt.pg
namespace Go.Proofs.YtdpbdkacngaemaaGreatDoor
open _root_.Go.Proofs.Tryz Go Go.RowKit
section
variable {P:Program} {ops:Array Oper} {Q:Exit→Act→World→Prop}
def sK (ops:Array Oper)(m:Nat)(ds:List Tmp)(size:Nat)(fs:List Nat):Bool :=
 decide (m≤ops.size)&&decide (ds.length=m)&&decide ds.Nodup&&ds.all (fun d=>decide (d<size)) &&
 (List.range m).all (fun i=>match ops[i]? with
  | some o=>o.guard.isNone&&o.dst == ds[i]? && (match o.op with | .select .. => false|_=>true) &&
   o.after.all (fun e=>!Region.binds .any e || decide (e.on<i)) &&
   o.op.operands.toList.all (fun x=>match x with
    | .tmp t=>match ds.idxOf? t with
     | some j=>qR ops i j
     | none=>true
    | _=>true)
  | none=>false) &&
 (List.range ops.size).all (fun j=>decide (j<m) || (match ops[j]? with
  | some o=>(o.after.any fun e=>Region.binds .any e&&decide (m≤e.on)) || (List.range m).all (fun i=>fs.contains i || qR ops j i || (List.range m).any (fun k=>qR ops k i))
  | none=>false))
structure qbg(ops:Array Oper)(m:Nat)(ds:List Tmp)(size:Nat)(fs:List Nat):Prop where
 le:m≤ops.size
 len:ds.length=m
 nodup:ds.Nodup
 small:∀d∈ds,d<size
 each:∀i,i<m→∃o,ops[i]?=some o∧o.guard=none∧o.dst=ds[i]? ∧ (∀cs b,o.op ≠ .select cs b)∧(∀e∈o.after,Region.binds .any e=true→e.on<i) ∧
  (∀t j,Operand.tmp t∈o.op.operands→ds.idxOf? t=some j→qR ops i j=true)
 tail:∀j o,m≤j→ops[j]?=some o→(∃e∈o.after,Region.binds .any e=true∧m≤e.on)∨(∀i,i<m→i∈fs∨qR ops j i=true∨∃k,k<m∧qR ops k i=true)
theorem qg6{m:Nat}{ds:List Tmp}{size:Nat}{fs:List Nat}(h:sK ops m ds size fs=true):qbg ops m ds size fs:=by
 unfold sK at h;simp only[Bool.and_eq_true,decide_eq_true_eq,List.all_eq_true,List.mem_range]at h;obtain⟨⟨⟨⟨⟨h1,h2⟩,h3⟩,h4⟩,h5⟩,h6⟩:=h;refine⟨h1,h2,h3,h4,fun i hi=>?_,fun j o hj ho=>?_⟩
 ·have h:=h5 i hi;cases ho:ops[i]? with
  | none=>simp[ho]at h
  | some o =>
   simp only[ho,Bool.and_eq_true]at h;obtain⟨⟨⟨⟨g1,g2⟩,g3⟩,g4⟩,g5⟩:=h;refine⟨o,rfl,by simpa using g1,by simpa using g2,fun cs b hs=>by simp[hs]at g3,fun e he hb=>?_,fun t j ht hj=>?_⟩
   ·have:=Array.all_eq_true_iff_forall_mem.1 g4 e he;simpa[hb]using this
   ·have:=List.all_eq_true.1 g5 (.tmp t) (by simpa using ht);simpa[hj]using this
 ·have hlt:j<ops.size:=(Array.getElem?_eq_some_iff.1 ho).1;have h:=h6 j hlt;simp only[ho,Bool.or_eq_true,decide_eq_true_eq]at h;rcases h with h|h|h
  ·omega
  ·obtain⟨e,he,hb⟩:=Array.any_eq_true'.1 h;simp only[Bool.and_eq_true,decide_eq_true_eq]at hb;exact .inl ⟨e,he,hb.1,hb.2⟩
  ·refine .inr fun i hi=>?_;have:=List.all_eq_true.1 h i (by simpa using hi);simp only[Bool.or_eq_true,List.any_eq_true,List.mem_range]at this;rcases this with(h|h)|h
   ·exact .inl (by simpa using h)
   ·exact .inr (.inl h)
   ·exact .inr (.inr h)
variable {a0:Act} {w0:World} {m:Nat} {ds:List Tmp} {G:Nat→Value→World→Prop}
theorem my {fs:List Nat}(ok:qbg ops m ds a0.tmps.size fs)
    (mono:∀i v w w',i<m→G i v w→Below w.heap.size w w'→G i v w')
    (step:∀i o vs w,i<m→ops[i]?=some o→Below w0.heap.size w0 w→(∀j,qR ops i j=true→G j (vs j) w) →
     jy P (fun v w'=>Below w.heap.size w w'∧G i v w') ((execOp (valOf a0 ds vs) o).run P w))
    (fin:∀vs w',Below w0.heap.size w0 w'→(∀i,i<m→G i (vs i) w')→wpAny P .any ops Q (ops.size-m) (xu ops.size m) (qZ vs ds a0) w') :
    ∀(r:Nat) (listed:Array Bool) (vs:Nat→Value) (a:Act) (w:World),qmC ops a0 w0 m ds G listed vs a w→(∀i∈fs,listed.getD i false=true)→zB m listed=r→wpAny P .any ops Q (ops.size-m+r) listed a w
 | 0,listed,vs,a,w,hI,hF,hr=>by
  have hall:=ui hr;have hl:listed=xu ops.size m:=by
   apply Array.ext
   ·simp[xu,hI.size]
   ·intro i h1 h2;have e:listed.getD i false=listed[i]:=by simp[h1]
    by_cases hi:i<m
    ·have:=hall i hi;rw[e]at this;simp[xu,this,hi]
    ·have:=hI.tail i (by omega);rw[e]at this;simp[xu,this,hi]
  have ha:a=qZ vs ds a0:=by
   rw[hI.act];exact xt _ _ _ _ ds 0 a0 fun j _ hj=>⟨hall j (by rw[← ok.len];omega),fun _=>rfl⟩
  rw[hl,ha,Nat.add_zero];exact fin vs w hI.ext fun i hi=>hI.good i hi (hall i hi)
 | r+1,listed,vs,a,w,hI,hF,hr=>by
  refine⟨fun h0=>?_,fun i hi=>?_⟩
  ·
   exfalso;have hex:∃i,i<m∧listed.getD i false=false:=by
    apply Classical.byContradiction;intro hn;have:zB m listed=0:=by
     unfold zB;rw[List.countP_eq_zero];intro i hi;have hi':=List.mem_range.1 hi;cases hb:listed.getD i false
     ·exact absurd ⟨i,hi',hb⟩ hn
     ·simp
    omega
   have key:∀n i,i<n→i<m→listed.getD i false=false→False:=by
    intro n
    induction n with
    | zero=>intro i h;omega
    | succ n ih =>
     intro i hin uB hf;obtain⟨o,ho,_,_,_,xm,_⟩:=ok.each i uB;have hs:i<listed.size:=by rw[hI.size];exact Nat.lt_of_lt_of_le uB ok.le
     have:i∈Region.ready .any ops listed:=by
      rw[mem_ready];refine⟨by rw[za hs];exact hf,o,ho,fun e he hb=>?_⟩;cases hb':listed.getD e.on false
      ·exact(ih e.on (by have:=xm e he hb;omega) (by have:=xm e he hb;omega) hb').elim
      ·rfl
     rw[h0]at this;cases this
   obtain⟨i,uB,hf⟩:=hex;exact key (i+1) i (by omega) uB hf
  ·obtain⟨nU,o,ho,hall⟩:=mem_ready.1 hi;have hio:i<ops.size:=(Array.getElem?_eq_some_iff.1 ho).1;have hs:i<listed.size:=by rw[hI.size];exact hio
   have hf:listed.getD i false=false:=by rw[← za hs];exact nU
   by_cases uB:i<m
   ·obtain⟨o',ho',hgd,rH,qau,xm,rI⟩:=ok.each i uB;obtain rfl:o=o':=Option.some.inj (ho.symm.trans ho');unfold wpOp;simp only[ho];have hw:Region.wanted o (yielded ops a.tmps)=true:=by simp[Region.wanted,hgd]
    rw[if_pos hw]
    left
    have hρ:execOp a.eval o=execOp (valOf a0 ds vs) o:=by
     refine execOp_congr o qau fun x hx=>?_;rw[hI.act];cases x with
     | tmp t =>
      cases hj:ds.idxOf? t with
      | none =>
       rw[xR hj];exact jA _ _ t ds 0 a0 (by rw[List.idxOf?_eq_none_iff]at hj;exact hj)
      | some j =>
       rw[xS hj];have rJ:ds[j]?=some t:=by
        have:=List.of_findIdx?_eq_some (p:=(· == t)) (xs:=ds) (i:=j) (by simpa[List.idxOf?]using hj);cases hd:ds[j]? with
        | none=>simp[hd]at this
        | some d=>simp[hd]at this;rw[this]
       obtain⟨e,he,hb,rfl⟩:=zT ho (rI t j hx hj);have:=ku (fun i=>listed.getD i false) vs t ds 0 e.on a0 ok.nodup rJ (by simpa using hall e he hb) (ok.small t (List.mem_of_getElem? rJ));simpa using this
     | const v=>simp only[valOf];rfl
     | global g=>simp only[valOf];rfl
     | func f=>simp only[valOf];rfl
    have hst:=step i o vs w uB ho hI.ext fun j hj=>by
     obtain⟨e,he,hb,rfl⟩:=zT ho hj;exact hI.good e.on (by have:=xm e he hb;omega) (hall e he hb)
    rw[← hρ]at hst;refine vH hst fun v w' ⟨nQ,hG⟩=>?_;have hdi:∃d,ds[i]?=some d:=⟨ds[i]'(by rw[ok.len];exact uB),List.getElem?_eq_getElem _⟩;obtain⟨d,hd⟩:=hdi;refine my ok mono step fin r (listed.setIfInBounds i true) (zZ vs i v) (a.put o.dst v) w' ⟨?_,?_,?_,?_,?_,?_⟩ (fun k hk=>getD_set_true (hF k hk)) ?_
    ·simp[hI.size]
    ·intro j hj;rw[getD_set_ne false (by omega)];exact hI.tail j hj
    ·intro j oj hoj hl e he hb;by_cases uR:j=i
     ·subst uR;obtain rfl:o=oj:=Option.some.inj (ho.symm.trans hoj);exact getD_set_true (hall e he hb)
     ·rw[getD_set_ne false (Ne.symm uR)]at hl;exact getD_set_true (hI.closed j oj hoj hl e he hb)
    ·exact qas hI.ext nQ
    ·intro j hj hl;by_cases uR:j=i
     ·subst uR;simpa[zZ]using hG
     ·rw[getD_set_ne false (Ne.symm uR)]at hl;have:=mono j _ w w' hj (hI.good j hj hl) nQ;simpa[zZ,uR]using this
    ·rw[rH,hd,hI.act];have:=jz (fun i=>listed.getD i false) vs i v ds 0 a0 d ok.nodup (Nat.zero_le _) (by simpa using hd) hf;rw[this,yr hs]
    ·have:=kK uB hs hf;omega
   ·exfalso;have hex:∃k,k<m∧listed.getD k false=false:=by
     apply Classical.byContradiction;intro hn;have:zB m listed=0:=by
      unfold zB;rw[List.countP_eq_zero];intro k hk;cases hb:listed.getD k false
      ·exact absurd ⟨k,List.mem_range.1 hk,hb⟩ hn
      ·simp
     omega
    rcases ok.tail i o (by omega) ho with⟨e,he,hb,hme⟩|qq1
    ·have h1:=hall e he hb;rw[hI.tail e.on hme]at h1;cases h1
    ·have key:∀n k,m-k≤n→k<m→listed.getD k false=true:=by
        intro n
        induction n with
        | zero=>intro k h1 h2;omega
        | succ n ih =>
         intro k h1 h2;rcases qq1 k h2 with h|h|⟨k',gZ,h⟩
         ·exact hF k h
         ·obtain⟨e,he,hb,rfl⟩:=zT ho h;exact hall e he hb
         ·obtain⟨ok',qiN,_,_,_,xm,_⟩:=ok.each k' gZ;obtain⟨e,he,hb,rfl⟩:=zT qiN h;have hlt:=xm e he hb;exact hI.closed k' ok' qiN (ih k' (by omega) gZ) e he hb
     obtain⟨k,hk,hkf⟩:=hex;rw[key m k (by omega) hk]at hkf;cases hkf
theorem bM {id:Nat}{a:Act}{w:World}(hm:P.follows .mixedOrders=true)(m:Nat)(ds:List Tmp)(vD:sK ops m ds a.tmps.size [0]=true)(G:Nat→Value→World→Prop)
    (o0:Oper) (v0:Value) (ho0:ops[0]?=some o0) (h0m:0<m) (hs:Region.noSelect ops=true) (hf:Region.free .any ops (Array.replicate ops.size false) 0=true) (hr:(Region.ready .any ops (Array.replicate ops.size false)).contains 0=true)
    (hQ:∀c a w,Q (.panic c) (a.put o0.dst v0) w→Q (.panic c) a w) (hy:Yields P ops o0 v0 a) (hG0:∀W,G 0 v0 W)
    (mono:∀i v w w',i<m→G i v w→Below w.heap.size w w'→G i v w')
    (step:∀i o vs ρ w',i<m→ops[i]?=some o→Reads a ds vs ρ→(∀f,ρ (.func f)=a.eval (.func f))→Below w.heap.size w w'→(∀j,qR ops i j=true→G j (vs j) w') →
     jy P (fun v w''=>Below w'.heap.size w' w''∧G i v w'') ((execOp ρ o).run P w'))
    (fin:∀vs w',Below w.heap.size w w'→(∀i,i<m→G i (vs i) w')→wpAny P .any ops Q (ops.size-m) (xu ops.size m) (qZ vs ds a) w') :
    (Code.region id ops true).wp P Q a w:=by
 have ok:=qg6 vD;have hd:Below w.heap.size w { w with drawn:=w.drawn+1 }:=⟨rfl,rfl,rfl,Nat.le_refl _,fun _ _=>rfl⟩;refine wp_region_any hm ?_;have hc:zB m (Array.replicate ops.size false)=m:=by
  have:=List.countP_eq_length (l:=List.range m) (p:=fun i=>!(Array.replicate ops.size false).getD i false) |>.2 fun i _=>by rw[zE];rfl
  unfold zB;rw[this,List.length_range]
 have ha:a=qM (fun i=>(Array.replicate ops.size false).getD i false) (fun _=>undef) ds 0 a:=by
  have:qM (fun i=>(Array.replicate ops.size false).getD i false) (fun _=>undef) ds 0 a=qM (fun _=>false) (fun _=>undef) ds 0 a:=xt _ _ _ _ ds 0 a fun j _ _=>⟨zE _ j,fun _=>rfl⟩;rw[this];exact(jJ ds 0 a).symm
 have hsz:0<(Array.replicate ops.size false).size:=by
  have:=ok.le;simp;omega
 have hc2:=kK (listed:=Array.replicate ops.size false) h0m hsz (zE _ 0);obtain⟨o',ho',hgd,rH,qau,xm,rI⟩:=ok.each 0 h0m;obtain rfl:o0=o':=Option.some.inj (ho0.symm.trans ho');have hdi:∃d,ds[0]?=some d:=⟨ds[0]'(by rw[ok.len];exact h0m),List.getElem?_eq_getElem _⟩;obtain⟨d,hdd⟩:=hdi;have hI:qmC ops a w m ds G ((Array.replicate ops.size false).setIfInBounds 0 true) (zZ (fun _=>undef) 0 v0) (a.put o0.dst v0) { w with drawn:=w.drawn+1 }:={
  size:=by simp
  tail:=fun j hj=>by
   rw[getD_set_ne false (by omega)];exact zE _ j
  closed:=fun i o hio h e he hb=>by
   by_cases hi:i=0
   ·subst hi;obtain rfl:o0=o:=Option.some.inj (ho0.symm.trans hio);have:=xm e he hb;omega
   ·rw[getD_set_ne false (Ne.symm hi),zE]at h;cases h
  ext:=hd
  good:=fun i _ h=>by
   by_cases hi:i=0
   ·subst hi;simpa[zZ]using hG0 _
   ·rw[getD_set_ne false (Ne.symm hi),zE]at h;cases h
  act:=by
   have:=jz (fun i=>(Array.replicate ops.size false).getD i false) (fun _=>undef) 0 v0 ds 0 a d ok.nodup (Nat.zero_le _) (by simpa using hdd) (zE _ 0);rw[rH,hdd]
   conv=>lhs;rw[ha]
   rw[this,yr hsz] }
 have h1:=my (Q:=Q) (fs:=[0]) ok mono (fun i o vs w' hi ho hb hG=>step i o vs (valOf a ds vs) w' hi ho ⟨fun _ _ h=>xS h,fun _ h=>xR h,fun _=>rfl⟩ (fun _=>rfl) hb hG) fin (m-1) _ _ _ _ hI (fun i hi=>by
  obtain rfl:i=0:=by simpa using hi
  simp;have:=ok.le;omega) (by omega)
 have e:ops.size=(ops.size-m+(m-1))+1:=by
  have:=ok.le;omega
 have h2:=wpAny_take (P:=P) (md:=.any) (ops:=ops) (Q:=Q) (fuel:=ops.size-m+(m-1)) ho0 hs hf hr hQ hy h1;rw[← e]at h2;exact h2
end
end Go.Proofs.YtdpbdkacngaemaaGreatDoor
namespace Go.Proofs.YtdpbdkacngaemaaGreatDoor.vt.pg
open _root_.Go.Proofs.Tryz Go Go.RowKit ib mt im sp
abbrev pt (g:Nat):Value:=.pointer (some ⟨g,0,none⟩)
structure Nx(G:Nat→Prop)(w:World)(g:Nat)(m:Mt):Prop where
 ex:∃A0 A1 A2 c0 c1 c2,qh w g 96 (zw A0 A1 A2 c0 c1 c2 m)∧kj (fun j=>G j∧j≠g) w A0 A1 A2 c0 c1 c2 m
def qn4 (G:Nat→Prop)(g:Nat)(m':Mt)(w:World)(e:Ending)(w':World):Prop:=e=.returned (.tuple #[])∧Nx G w' g m'∧ib.qB (fun j=>j=g) w w'
def vr (G:Nat→Prop)(W0:World)(f:Value)(m m':Mt):Prop:=∃k kU,f=.func (.func k) #[] kU∧(∀(a:Array Value) (W:World),Sem.run prog (callFunc k a) W=Result.ok (Next.enter k a) W) ∧
 ∀W g,Below W0.heap.size W0 W→W0.heap.size≤g→Nx G W g m→Calls prog k (#[pt g]++kU) W (qn4 G g m' W)
theorem vr.below{G:Nat→Prop}{w w':World}{f:Value}{m m':Mt}(h:vr G w f m m')(hb:Below w.heap.size w w'):vr G w' f m m':=by
 obtain⟨k,kU,h1,h2,h3⟩:=h;exact⟨k,kU,h1,h2,fun W g h4 h5 h6=>h3 W g (qc hb h4) (Nat.le_trans hb.size h5) h6⟩
theorem gJ {G:Nat→Prop}{w:World}{g k:Nat}{u:Value}(hg:∀j,G j→j≠g):vq G w (w.setCell ⟨g,k,none⟩ u) :=
 ⟨by simp[World.setCell],fun j hj _=>qw _ _ _ _ _ (hg j hj)⟩
theorem qn5(w:World)(g k:Nat)(u:Value):ib.qB (fun j=>j=g) w (w.setCell ⟨g,k,none⟩ u):=(ib.qB.refl _ w).setCell ⟨g,k,none⟩ u (.inl rfl)
theorem Nx.drew{G:Nat→Prop}{w:World}{g:Nat}{m:Mt}(h:Nx G w g m):Nx G w.drew g m:=by
 obtain⟨A0,A1,A2,c0,c1,c2,hk,ht⟩:=h.ex;exact⟨A0,A1,A2,c0,c1,c2,hk,ht.stay ⟨Nat.le_refl _,fun j _ _=>rfl⟩⟩
theorem qro{w:World}(t:TypeId)(v:Value):(w.alloc (.cells #[v] t)).cell? ⟨w.heap.size,0,none⟩=some v:=(qh.new w t #[v]).cell 0
theorem qdv{G:Nat→Prop}{w:World}{g pb:Nat}{m:Mt}{A:Option Addr}{c:Nat}{l:List Int}(hN:Nx G w g m)(hp:w.cell? ⟨pb,0,none⟩=some (.slice A l.length c))(hpb:pb<w.heap.size)(hl:dN G w A l c)(h1:l.length≤1000)(hG:G w.heap.size) :
    Calls prog 142 #[pt g,pt pb] w (qn4 G g { m with live:=l } w):=by
 obtain⟨A0,A1,A2,c0,c1,c2,hk,ht⟩:=hN.ex;have HC:=QH (vR A c l w hl.at_ h1);have HK:=QH hk;have HT:=QH ht;have HZ:=QH (hl.at_.ints.mem);have HG:=QH hG;clear hN hk ht hl h1 hG;go_enter func142,ntmps142;go_wp2_with fail;refine HC.out.mono ?_;rintro e W1 fR;obtain rfl:=fR.1;have hb:=fR.2.2;have zQ:=HK.out.below hb;have jQ:=HK.out.lt;have hs:=fR.sl HZ.out (fun j=>G j∧j≠g) ⟨HG.out,by omega⟩;have ht1:=HT.out.below hb;have HN2:Hid (Nx G (W1.setCell ⟨g,0,none⟩ (.slice (some ⟨w.heap.size,0,none⟩) l.length l.length)) g { m with live:=l }) :=
  ⟨_,A1,A2,_,c1,c2,by have:=zQ.qu 0 (.slice (some ⟨w.heap.size,0,none⟩) l.length l.length);simpa[zw]using this,(kj.mk (m:={ m with live:=l }) hs ht1.qd ht1.room ht1.qp ht1.base ht1.target ht1.next ht1.all).stay (gJ fun j hj=>hj.2)⟩
 have qG:Hid (ib.qB (fun j=>j=g) w (W1.setCell ⟨g,0,none⟩ (.slice (some ⟨w.heap.size,0,none⟩) l.length l.length))):=(ib.qB.of_below hb).setCell _ _ (.inl rfl);have k0:=zQ.cell 0;have f0:=zQ.frozen 0;have q9I:=zQ.lt;simp only[zw,List.getElem?_toArray,List.getElem?_cons_zero]at k0;clear fR hb zQ hs ht1 HC HK HT;go_wp2_with fail
 go_end0
 exact⟨rfl,HN2.out,qG.out⟩
def MkP (G:Nat→Prop)(R:Mt→Mt→Prop)(w:World)(e:Ending)(w':World):Prop:=∃f,e=.returned f∧(∀m m',R m m'→vr G w' f m m')∧Below w.heap.size w w'
theorem qg7{G:Nat→Prop}{w:World}{A:Option Addr}{c:Nat}{l:List Int}(hl:dN G w A l c)(h1:l.length≤1000)(hG:∀j,w.heap.size≤j→G j) :
    Calls prog 64 #[.slice A l.length c] w (MkP G (fun m m'=>m'={ m with live:=l }) w):=by
 have HB:=QH ((Below.refl w.heap.size w).alloc (Nat.le_refl _) (.cells #[.slice A l.length c] 80));have HL:=QH hl;have HG:=QH hG;clear hl hG;go_enter func64,ntmps64;go_wp2_with fail;go_ret;refine⟨_,rfl,fun m m' hR=>?_,HB.out⟩;subst hR;refine⟨_,_,rfl,fun a W=>by go_simp,fun W g hb hg hN=>?_⟩;have hbb:=qc HB.out hb;have hlt:w.heap.size<(w.alloc (.cells #[.slice A l.length c] 80)).heap.size:=by simp
 exact qdv hN ((hb.cell (p:=⟨w.heap.size,0,none⟩) hlt).trans (qro _ _)) (Nat.lt_of_lt_of_le hlt hb.size) (HL.out.stay (vq.of_below hbb)) h1 (HG.out _ hbb.size)
end Go.Proofs.YtdpbdkacngaemaaGreatDoor.vt.pg

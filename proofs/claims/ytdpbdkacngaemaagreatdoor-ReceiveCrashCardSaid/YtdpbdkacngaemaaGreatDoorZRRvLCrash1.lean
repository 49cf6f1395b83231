/- RvV2, SlotsN, RvAsks, StEq, StSame, CShelf, StOwn, StBox, StCut, WiRef, CRSum, CSeal, CRef, StREnc, RvNext, RvNone, RvAlike, RvFs, RvFc. -/
import Derived.Test.YtdpbdkacngaemaaGreatDoorZR11
import Derived.Test.YtdpbdkacngaemaaGreatDoorZRRvLCrash0
import Derived.Shelf.LaysM
import Derived.Shelf.Strconv.Clone
set_option linter.unusedVariables false
set_option linter.unusedSimpArgs false
set_option maxHeartbeats 30000000
set_option maxRecDepth 100000
namespace Go.Proofs.YtdpbdkacngaemaaGreatDoor.rv
open _root_.Go.Proofs.Tryz Go Go.RowKit ib mt st
open vt (yv js VP DD Ke gN)
def V2 (IV:yv)(w:World)(B:Nat)(X:Nat→Prop)(v pd:Nat)(d:DD)(m:Mt)(l:Bool):Prop :=
 ∃o1 o2,VP IV w o1 o2 v pd d m l∧(∀j,o1 j∨o2 j→B≤j∧¬ X j)∧(∀j,X j→j<w.heap.size)∧gN<B∧¬ X gN
section
variable {IV:yv} (H:js IV) {w w':World} {B v pd:Nat} {X Y:Nat→Prop} {d:DD} {m:Mt} {l:Bool}
include H
theorem V2.below(h:V2 IV w B X v pd d m l)(hb:Below w.heap.size w w'):V2 IV w' B X v pd d m l:=by
 obtain⟨o1,o2,h1,h2,h3,h4⟩:=h;exact⟨o1,o2,ze H h1 hb,h2,fun j hj=>Nat.lt_of_lt_of_le (h3 j hj) hb.size,h4⟩
theorem V2.more(h:V2 IV w B X v pd d m l)(hb:Below w.heap.size w w')(hY:∀j,Y j→X j∨(w.heap.size≤j∧j<w'.heap.size)):V2 IV w' B Y v pd d m l:=by
 obtain⟨o1,o2,h1,h2,h3,h4⟩:=h;refine⟨o1,o2,ze H h1 hb,fun j hj=>⟨(h2 j hj).1,fun hy=>?_⟩,fun j hj=>?_,h4.1,fun hy=>?_⟩
 ·rcases hY j hy with h|h
  ·exact(h2 j hj).2 h
  ·have:=h1.low H j (.inl hj);omega
 ·rcases hY j hj with h|h
  ·exact Nat.lt_of_lt_of_le (h3 j h) hb.size
  ·exact h.2
 ·rcases hY gN hy with h|h
  ·exact h4.2 h
  ·have:=h1.low H gN (.inr rfl);omega
theorem V2.turn{S:Nat→Prop}(h:V2 IV w B X v pd d m l)(hb:qB S w w')(hS:∀j,S j→X j∨w.heap.size≤j)(hY:∀j,Y j→X j∨(w.heap.size≤j∧j<w'.heap.size)):V2 IV w' B Y v pd d m l:=by
 obtain⟨o1,o2,h1,h2,h3,h4⟩:=h;have hl:=h1.low H;refine⟨o1,o2,h1.keep H (fun j hj=>hb.block j (hl j hj) fun hs=>?_) hb.size,fun j hj=>⟨(h2 j hj).1,fun hy=>?_⟩,fun j hj=>?_,h4.1,fun hy=>?_⟩
 ·rcases hS j hs with h|h
  ·rcases hj with hj|rfl
   ·exact(h2 j hj).2 h
   ·exact h4.2 h
  ·have:=hl j hj;omega
 ·rcases hY j hy with h|h
  ·exact(h2 j hj).2 h
  ·have:=hl j (.inl hj);omega
 ·rcases hY j hj with h|h
  ·exact Nat.lt_of_lt_of_le (h3 j h) hb.size
  ·exact h.2
 ·rcases hY gN hy with h|h
  ·exact h4.2 h
  ·have:=hl gN (.inr rfl);omega
theorem V2.tab(h:V2 IV w B X v pd d m l):xY w:=by
 obtain⟨o1,o2,h1,_⟩:=h;exact H.tab h1.is
omit H in
theorem qpG(h:V2 IV w B X v pd d m l)(hB:B≤w.heap.size){f:Nat}{args:Array Value}{Q:Int→DD→Mt→Bool→Prop}(hc:∀o1 o2,VP IV w o1 o2 v pd d m l→(∀j,o1 j∨o2 j→B≤j∧¬ X j)→Calls prog f args w (vt.qbk IV o1 o2 v pd Q w)) :
    Calls prog f args w fun e w'=>∃r d' m' l',e=.returned (.int .i64 r)∧V2 IV w' B X v pd d' m' l'∧Ke B X w w'∧Q r d' m' l':=by
 obtain⟨o1,o2,h1,h3,h5⟩:=h;refine(hc o1 o2 h1 h3).mono ?_;rintro e w' ⟨r,d',m',l',sD,cS,he,hp,hb,hg,hq⟩;refine⟨r,d',m',l',he,⟨sD,cS,hp,fun j hj=>?_,fun j hj=>Nat.lt_of_lt_of_le (h5.1 j hj) hb.size,h5.2⟩,hb.mono h3,hq⟩;rcases hg j hj with h|h
 ·exact h3 j h
 ·exact⟨by omega,fun hx=>by have:=h5.1 j hx;omega⟩
theorem ni (h:V2 IV w B X v pd d m l){f:Nat}{args:Array Value}{d1:DD}{r:Value}(hB:B≤w.heap.size)(hc:∀o2,dk.zK 1000 w o2 pd d→(∀j,o2 j→B≤j∧¬ X j)→Calls prog f args w (dk.xj 1000 o2 pd d1 r w)) :
    Calls prog f args w fun e w'=>e=.returned r∧V2 IV w' B X v pd d1 m l∧Ke B X w w':=by
 obtain⟨o1,o2,h1,h3,h5⟩:=h;refine(hc o2 h1.dk (fun j hj=>h3 j (.inr hj))).mono ?_;rintro e w' ⟨rfl,cS,k1,k2,k3⟩;have hb:qB o2 w w':=vt.oX k2;have hn:∀j,cS j→o2 j∨w.heap.size≤j:=fun j hj=>k3 j hj;refine⟨rfl,⟨o1,cS,⟨H.keep h1.is (fun j hj=>hb.block j (H.low h1.is j hj) (h1.dj j hj)) hb.size,k1,fun j hj ho=>?_⟩,fun j hj=>?_,fun j hj=>Nat.lt_of_lt_of_le (h5.1 j hj) hb.size,h5.2⟩,hb.mono fun j hj=>h3 j (.inr hj)⟩
 ·rcases hn j ho with h|h
  ·exact h1.dj j hj h
  ·have:=H.low h1.is j hj;omega
 ·rcases hj with hj|hj
  ·exact h3 j (.inl hj)
  ·rcases hn j hj with h|h
   ·exact h3 j (.inr h)
   ·exact⟨by omega,fun hx=>by have:=h5.1 j hx;omega⟩
theorem qtg{N b:Nat}{t:vt.Tg}{m':Mt}(h:V2 IV w B X v pd d m l)(hB:B≤w.heap.size)(hj:jr.RJ N t d)(hf:d.qz=0)(hr:vt.xK b N t m'):Calls prog 11 #[pt pd] w
      fun e w'=>∃v' d',e=.returned (.tuple #[pt v',.int .i64 0])∧V2 IV w' B X v' pd d' m' false∧jr.JJ N t d'∧d'.qz=0∧Ke B X w w':=by
 obtain⟨o1,o2,h1,h8,h10⟩:=h;refine(H.qbl h1.dk (H.tab h1.is) (h1.dj gN (.inr rfl)) hj hf hr).mono ?_;rintro e w' ⟨v',d',q1,q2,rfl,hv,hj',hf',jy,g1,g2⟩;refine⟨v',d',rfl,⟨q1,q2,hv,fun j hj=>?_,fun j hj=>Nat.lt_of_lt_of_le (h10.1 j hj) jy.size,h10.2⟩,hj',hf',jy.mono fun j hj=>h8 j (.inr hj)⟩;have hnew:w.heap.size≤j→B≤j∧¬ X j:=fun h=>⟨by omega,fun hx=>by have:=h10.1 j hx;omega⟩;rcases hj with hj|hj
 ·exact hnew (g1 j hj)
 ·rcases g2 j hj with h|h
  ·exact h8 j (.inr h)
  ·exact hnew h
theorem nj {N b:Nat}{t:vt.Tg}(h:V2 IV w B X v pd d m false)(hB:B≤w.heap.size)(A:Option Addr)(cp:Nat)(p:Pa)(hJ:jr.JJ N t d)(hf:0≤d.qz)(hR:vt.xK b N t m)(hp:cV w A cp p)(hs:p.zU.length≤1000)(hA:∀b o,A=some ⟨b,o,none⟩→X b) :
    Calls prog 25 #[pt v,.agg (jL p A cp)] w fun e w'=>∃r d' m' l',e=.returned (.int .i64 r)∧V2 IV w' B X v pd d' m' l'∧Ke B X w w'∧qhl N t d m p r d' m' l' :=
 qpG h hB (fun o1 o2 hv ho=>kN H A cp p hv hJ hf hR hp hs (fun b o e=>⟨fun h1=>(ho b (.inl h1)).2 (hA b o e),fun h2=>(ho b (.inr h2)).2 (hA b o e)⟩))
end
theorem fR {W W':World}{A:Option Addr}{c:Nat}{p:Pa}(h:cV W A c p)(hs:W.heap.size≤W'.heap.size)(hk:∀b o,A=some ⟨b,o,none⟩→b<W.heap.size→W'.heap[b]?=W.heap[b]?):cV W' A c p:=by
 refine⟨fun i hi=>?_,h.base,h.target,h.fr,h.all⟩;obtain⟨b,o,e1,e2,e3,e4,e5⟩:=h.zU i hi;have hb:=hk b o e1 e2;exact⟨b,o,e1,Nat.lt_of_lt_of_le e2 hs,by rw[World.cell?_of_block (a:=⟨b,o+i*2,none⟩) hb];exact e3,by rw[World.cell?_of_block (a:=⟨b,o+i*2+1,none⟩) hb];exact e4,e5⟩
section
variable {IV:yv} {lv:Nat→List Bt} {M k j N:Nat} {t:vt.Tg} {d d':DD} {m m':Mt} {r:Int} {l':Bool}
theorem qle(hv:vY lv)(h:Rc lv M k j t m)(hk:k<M)(hM:M≤8)(hR:vt.xK 8 N t m)(hN:377≤N)(hj:jr.JJ N t d)(hf:d.qz=0)(hq:qhl N t d m (lp lv k j) r d' m' l') :
    r=0∧l'=false∧d'.qz=0∧∃t',jr.JJ N t' d'∧vt.xK 8 N t' m'∧Rc lv M (sQ lv k j).1 (sQ lv k j).2 t' m':=by
 have ha:=qer hv h hk hR.ok.len;obtain⟨P,hP⟩:=QE (vt.xp N m (jW (lp lv k j)) (lp lv k j).zU);obtain⟨c0,hok,hw,hrc⟩:=qa3 hv h hk hM hR hN hP;rcases hq with⟨h0,_⟩|⟨_,hq⟩
 ·exact absurd ha h0
 ·rw[hP]at hq;rcases hq with⟨h0,_⟩|⟨_,rfl,hj',rfl,rfl,hf',_⟩|⟨_,_,_,_,hf',_⟩
  ·exact absurd c0 h0
  ·exact⟨rfl,rfl,hf' hf,_,hj',hR.next hok hw,hrc⟩
  ·exact absurd hf hf'
end
end Go.Proofs.YtdpbdkacngaemaaGreatDoor.rv
namespace Go.Proofs.YtdpbdkacngaemaaGreatDoor
open _root_.Go.Proofs.Tryz Go Go.RowKit
def vI (P:Program)(K:Value→World→Prop):Result Next→Prop
 | .ok (.value v) w'=>K v w'
 | .ok .skip w'=>K undef w'
 | .ok (.enter f args) w'=>Calls P f args w' fun e w''=>∃v,e=.returned v∧K v w''
 | _=>False
theorem sR {P:Program}{o:Oper}{a:Act}{w:World}{Q:Exit→Act→World→Prop}{K:Value→World→Prop}{next:Act→World→Prop}(h:vI P K ((execOp a.eval o).run P w))(hn:∀v w',K v w'→next (a.put o.dst v) w'):o.wp P a w next Q:=by
 unfold Oper.wp;generalize (execOp a.eval o).run P w=r at *;cases r with
 | ok n w' =>
  cases n <;> simp only[vI]at h <;> simp only[Oper.upon];case value v=>exact hn _ _ h
  case skip=>exact hn _ _ h
  case enter f args =>
   refine h.mono fun e w'' he=>?_;obtain⟨v,rfl,hk⟩:=he;exact hn _ _ hk
 | halt x w'=>simp only[vI]at h
theorem qD {P:Program}{o:Oper}{ρ:Operand→Value}{w w':World}{v:Value}{K:Value→World→Prop}(h:(execOp ρ o).run P w=.ok (.value v) w')(hk:K v w'):vI P K ((execOp ρ o).run P w):=by
 rw[h];exact hk
theorem gH {P:Program}{o:Oper}{ρ:Operand→Value}{w w':World}{K:Value→World→Prop}(h:(execOp ρ o).run P w=.ok .skip w')(hk:K undef w'):vI P K ((execOp ρ o).run P w):=by
 rw[h];exact hk
section
variable {P:Program} {ops:Array Oper} {Q:Exit→Act→World→Prop}
def qbV (ops:Array Oper)(ds:List Tmp)(size:Nat):Bool :=
 decide (ds.length=ops.size)&&decide ds.Nodup &&
 (List.range ops.size).all (fun i=>match ops[i]? with
  | some o=>(match o.dst with|some d=>decide (ds[i]?=some d)&&decide (d<size)|none=>(match ds[i]? with|some d=>decide (size≤d)|none=>false))&&(match o.op with | .select .. => false|_=>true) &&
   o.after.all (fun e=>!Region.binds .any e || decide (e.on<i)) &&
   (match o.guard with|none=>true|some g=>zg ops i g.1&&(match ops[g.1]? with|some q=>q.dst.isSome|none=>false)) &&
   o.op.operands.toList.all (fun x=>match x with
    | .tmp t=>match ds.idxOf? t with
     | some j=>zg ops i j&&decide (t<size)
     | none=>true
    | _=>true)
  | none=>false)
structure qpH(ops:Array Oper)(ds:List Tmp)(size:Nat):Prop where
 len:ds.length=ops.size
 nodup:ds.Nodup
 each:∀i,i<ops.size→∃o d,ops[i]?=some o∧ds[i]?=some d∧((o.dst=some d∧d<size)∨(o.dst=none∧size≤d))∧(∀cs b,o.op ≠ .select cs b)∧(∀e∈o.after,Region.binds .any e=true→e.on<i) ∧
  (∀j want,o.guard=some (j,want)→zg ops i j=true∧∃q,ops[j]?=some q∧q.dst.isSome=true)∧(∀t j,Operand.tmp t∈o.op.operands→ds.idxOf? t=some j→zg ops i j=true∧t<size)
theorem qlf{ds:List Tmp}{size:Nat}(h:qbV ops ds size=true):qpH ops ds size:=by
 unfold qbV at h;simp only[Bool.and_eq_true,decide_eq_true_eq,List.all_eq_true,List.mem_range]at h;obtain⟨⟨h2,h3⟩,h5⟩:=h;refine⟨h2,h3,fun i hi=>?_⟩;have h:=h5 i hi;cases ho:ops[i]? with
 | none=>simp[ho]at h
 | some o =>
  simp only[ho,Bool.and_eq_true]at h;obtain⟨⟨⟨⟨g2,g3⟩,g4⟩,g1⟩,g5⟩:=h;have hd:∃d,ds[i]?=some d:=⟨ds[i]'(by omega),List.getElem?_eq_getElem _⟩;obtain⟨d,hd⟩:=hd;refine⟨o,d,rfl,hd,?_,fun cs b hs=>by simp[hs]at g3,fun e he hb=>?_,fun j want hg=>?_,fun t j ht hj=>?_⟩
  ·cases hq:o.dst with
   | some d' =>
    rw[hq]at g2;simp only[Bool.and_eq_true,decide_eq_true_eq]at g2;rw[hd]at g2;obtain⟨g2a,g2b⟩:=g2;injection g2a with g2a
    subst g2a;exact .inl ⟨rfl,g2b⟩
   | none =>
    rw[hq,hd]at g2;simp only[decide_eq_true_eq]at g2;exact .inr ⟨rfl,g2⟩
  ·have:=Array.all_eq_true_iff_forall_mem.1 g4 e he;simpa[hb]using this
  ·rw[hg]at g1;simp only[Bool.and_eq_true]at g1;refine⟨g1.1,?_⟩;have g1b:=g1.2;cases hq:ops[j]? with
   | none=>rw[hq]at g1b;cases g1b
   | some q=>rw[hq]at g1b;exact⟨q,rfl,g1b⟩
  ·have:=List.all_eq_true.1 g5 (.tmp t) (by simpa using ht);simpa[hj]using this
theorem qhr(a:Act)(d:Tmp)(v:Value)(h:a.tmps.size≤d):a.put none v=a.put (some d) v:=by
 unfold Act.put;simp only
 congr 1
 rw[Array.setIfInBounds_eq_of_size_le h]
structure q76(ops:Array Oper)(a0:Act)(ds:List Tmp)(I:(Nat→Bool)→(Nat→Value)→World→Prop)(listed:Array Bool)(vs:Nat→Value)(a:Act)(w:World):Prop where
 size:listed.size=ops.size
 act:a=qK (fun i=>listed.getD i false) vs ds 0 a0
 inv:I (fun i=>listed.getD i false) vs w
variable {a0:Act} {ds:List Tmp} {I:(Nat→Bool)→(Nat→Value)→World→Prop}
theorem qpI{t:Tmp}{j:Nat}(hj:ds.idxOf? t=some j):ds[j]?=some t:=by
 have:=List.of_findIdx?_eq_some (p:=(· == t)) (xs:=ds) (i:=j) (by simpa[List.idxOf?]using hj);cases hd:ds[j]? with
 | none=>simp[hd]at this
 | some d=>simp[hd]at this;rw[this]
theorem qiy(ok:qpH ops ds a0.tmps.size)
    (step:∀i o L vs ρ w,ops[i]?=some o→L i=false→(∀j,zg ops i j=true→L j=true)→qaO a0 ds vs ρ→(∀j want,o.guard=some (j,want)→vs j=.bool want)→I L vs w →
     vI P (fun v w'=>I (qP L i) (zE vs i v) w') ((execOp ρ o).run P w))
    (skip:∀i o L vs w j want,ops[i]?=some o→L i=false→(∀j,zg ops i j=true→L j=true)→o.guard=some (j,want)→vs j ≠ .bool want→I L vs w→I (qP L i) (zE vs i undef) w)
    (fin:∀vs w',I (fun j=>decide (j<ops.size)) vs w'→Q .normal (qX vs ds a0) w') :
    ∀(r:Nat) (listed:Array Bool) (vs:Nat→Value) (a:Act) (w:World),q76 ops a0 ds I listed vs a w→zN ops.size listed=r→wpAny P .any ops Q r listed a w
 | 0,listed,vs,a,w,hI,hr=>by
  have hall:=vk hr;have hn:Region.ready .any ops listed=[]:=by
   apply List.eq_nil_iff_forall_not_mem.2;intro i hi;obtain⟨rZ,o,ho,_⟩:=mem_ready.1 hi;have hio:i<ops.size:=(Array.getElem?_eq_some_iff.1 ho).1;have:=hall i hio;rw[zo (by rw[hI.size];exact hio)]at rZ;rw[this]at rZ;cases rZ
  have ha:a=qX vs ds a0:=by
   rw[hI.act];exact xG _ _ _ _ ds 0 a0 fun j _ hj=>⟨hall j (by rw[← ok.len];omega),fun _=>rfl⟩
  have hL:(fun i=>listed.getD i false)=fun j=>decide (j<ops.size):=by
   funext j
   by_cases hj:j<ops.size
   ·rw[hall j hj,decide_eq_true hj]
   ·rw[decide_eq_false hj];simp[Array.getD,hI.size,hj]
  rw[ha];have h2:=hI.inv;rw[hL]at h2;exact wpAny_done hn (fin vs w h2) 0
 | r+1,listed,vs,a,w,hI,hr=>by
  refine⟨fun h0=>?_,fun i hi=>?_⟩
  ·exfalso;have hex:∃i,i<ops.size∧listed.getD i false=false:=by
    apply Classical.byContradiction;intro hn;have:zN ops.size listed=0:=by
     unfold zN;rw[List.countP_eq_zero];intro i hi;have hi':=List.mem_range.1 hi;cases hb:listed.getD i false
     ·exact absurd ⟨i,hi',hb⟩ hn
     ·simp
    omega
   have key:∀n i,i<n→i<ops.size→listed.getD i false=false→False:=by
    intro n
    induction n with
    | zero=>intro i h;omega
    | succ n ih =>
     intro i hin vK hf;obtain⟨o,_,ho,_,_,_,xB,_⟩:=ok.each i vK;have hs:i<listed.size:=by rw[hI.size];exact vK
     have:i∈Region.ready .any ops listed:=by
      rw[mem_ready];refine⟨by rw[zo hs];exact hf,o,ho,fun e he hb=>?_⟩;cases hb':listed.getD e.on false
      ·exact(ih e.on (by have:=xB e he hb;omega) (by have:=xB e he hb;omega) hb').elim
      ·rfl
     rw[h0]at this;cases this
   obtain⟨i,vK,hf⟩:=hex;exact key (i+1) i (by omega) vK hf
  ·obtain⟨rZ,o,ho,hall⟩:=mem_ready.1 hi;have vK:i<ops.size:=(Array.getElem?_eq_some_iff.1 ho).1;have hs:i<listed.size:=by rw[hI.size];exact vK
   have hf:listed.getD i false=false:=by rw[← zo hs];exact rZ
   obtain⟨o',d,ho',hd,qaK,qcy,xB,qvk,qaL⟩:=ok.each i vK;obtain rfl:o=o':=Option.some.inj (ho.symm.trans ho');have qw:∀j,zg ops i j=true→listed.getD j false=true:=fun j hj=>by
    obtain⟨e,he,hb,rfl⟩:=xi ho hj;exact hall e he hb
   have qcz:∀t j,ds[j]?=some t→t<a0.tmps.size→listed.getD j false=true→a.eval (.tmp t)=vs j:=fun t j hdj hts hl=>by
    rw[hI.act];have:=uv (fun i=>listed.getD i false) vs t ds 0 j a0 ok.nodup hdj (by simpa using hl) hts;simpa using this
   have qc0:∀v w',I (qP (fun i=>listed.getD i false) i) (zE vs i v) w'→wpAny P .any ops Q r (listed.setIfInBounds i true) (a.put o.dst v) w':=by
    intro v w' h;refine qiy ok step skip fin r (listed.setIfInBounds i true) (zE vs i v) (a.put o.dst v) w' ⟨by simp[hI.size],?_,?_⟩ ?_
    ·have hput:a.put o.dst v=a.put (some d) v:=by
        rcases qaK with⟨e,_⟩|⟨e,hs2⟩
        ·rw[e]
        ·rw[e];exact qhr a d v (by rw[hI.act,lF];exact hs2)
     rw[hput,hI.act];have:=km (fun i=>listed.getD i false) vs i v ds 0 a0 d ok.nodup (Nat.zero_le _) (by simpa using hd) hf;rw[this,yG hs]
    ·rw[← yG hs];exact h
    ·have:=uJ vK hs hf;omega
   have nK:∀j want,o.guard=some (j,want)→yielded ops a.tmps j=(match vs j with | .bool b=>some b|_=>none):=by
    intro j want hg;obtain⟨hj,q,hq1,rX⟩:=qvk j want hg;obtain⟨e,he,hb,he2⟩:=xi ho hj;have gZ:j<i:=by rw[← he2];exact xB e he hb
    obtain⟨oj,t,hoj,qiL,hdj,_⟩:=ok.each j (by omega);obtain rfl:q=oj:=Option.some.inj (hq1.symm.trans hoj);have q77:q.dst=some t∧t<a0.tmps.size:=by
     rcases hdj with h|⟨h,_⟩
     ·exact h
     ·rw[h]at rX;cases rX
    obtain⟨hdj,hts⟩:=q77;have hr:=qcz t j qiL hts (qw j hj);unfold yielded;rw[hoj];simp only[Option.bind_some,hdj,qiL];have he:a.eval (.tmp t)=a.tmps.getD t undef:=rfl;rw[he]at hr;cases hx:a.tmps[t]? with
    | none =>
     have:a.tmps.getD t undef=undef:=by simp[Array.getD_eq_getD_getElem?,hx]
     rw[← hr,this];rfl
    | some x =>
     have:a.tmps.getD t undef=x:=by simp[Array.getD_eq_getD_getElem?,hx]
     rw[← hr,this];cases x <;> rfl
   unfold wpOp;simp only[ho];by_cases hw:Region.wanted o (yielded ops a.tmps)=true
   ·rw[if_pos hw]
    left
    have hρ:execOp a.eval o=execOp (valOf a0 ds vs) o:=by
     refine execOp_congr o qcy fun x hx=>?_;cases x with
     | tmp t =>
      cases hj:ds.idxOf? t with
      | none =>
       rw[yi hj,hI.act];exact kq _ _ t ds 0 a0 (by rw[List.idxOf?_eq_none_iff]at hj;exact hj)
      | some j =>
       rw[yj hj];exact qcz t j (qpI hj) (qaL t j hx hj).2 (qw j (qaL t j hx hj).1)
     | const v=>simp only[valOf];rfl
     | global g=>simp only[valOf];rfl
     | func f=>simp only[valOf];rfl
    have hst:=step i o (fun i=>listed.getD i false) vs (valOf a0 ds vs) w ho hf qw ⟨fun _ _ h=>yj h,fun _ h=>yi h,fun _=>rfl,fun _=>rfl⟩ (fun j want hg=>by
     have hy:=nK j want hg;unfold Region.wanted at hw;rw[hg]at hw;simp only[hy]at hw;cases hv:vs j <;> rw[hv]at hw <;> simp at hw;rw[hw]) hI.inv
    rw[← hρ]at hst;exact sR hst fun v w' h=>qc0 v w' h
   ·rw[if_neg hw];cases hg:o.guard with
    | none=>exact absurd (by simp[Region.wanted,hg]) hw
    | some g =>
     obtain⟨j,want⟩:=g;refine qc0 undef w (skip i o _ vs w j want ho hf qw hg (fun hv=>hw ?_) hI.inv);have hy:=nK j want hg;unfold Region.wanted;rw[hg];simp only[hy,hv];simp
theorem aI {id:Nat}{a:Act}{w:World}(hm:P.follows .mixedOrders=true)(ds:List Tmp)(hok:qbV ops ds a.tmps.size=true)(I:(Nat→Bool)→(Nat→Value)→World→Prop)
    (start:I (fun _=>false) (fun _=>undef) w.drew)
    (step:∀i o L vs ρ w,ops[i]?=some o→L i=false→(∀j,zg ops i j=true→L j=true)→qaO a ds vs ρ→(∀j want,o.guard=some (j,want)→vs j=.bool want)→I L vs w →
     vI P (fun v w'=>I (qP L i) (zE vs i v) w') ((execOp ρ o).run P w))
    (skip:∀i o L vs w j want,ops[i]?=some o→L i=false→(∀j,zg ops i j=true→L j=true)→o.guard=some (j,want)→vs j ≠ .bool want→I L vs w→I (qP L i) (zE vs i undef) w)
    (fin:∀vs w',I (fun j=>decide (j<ops.size)) vs w'→Q .normal (qX vs ds a) w') :
    (Code.region id ops true).wp P Q a w:=by
 have ok:=qlf hok;refine wp_region_any hm ?_;have h0:zN ops.size (Array.replicate ops.size false)=ops.size:=by
  have:=List.countP_eq_length (l:=List.range ops.size) (p:=fun i=>!(Array.replicate ops.size false).getD i false) |>.2 fun i _=>by rw[zS];rfl
  unfold zN;rw[this,List.length_range]
 have hf:(fun i=>(Array.replicate ops.size false).getD i false)=fun _=>false:=by
  funext i
  exact zS _ i
 refine qiy ok step skip fin ops.size (Array.replicate ops.size false) (fun _=>undef) a _ ⟨by simp,?_,?_⟩ h0
 ·rw[hf];exact(kL ds 0 a).symm
 ·rw[hf];exact start
end
end Go.Proofs.YtdpbdkacngaemaaGreatDoor
namespace Go.Proofs.YtdpbdkacngaemaaGreatDoor.rv
open _root_.Go.Proofs.Tryz Go Go.RowKit Go.Sort ib mt st
open ch (kR)
def lq (W:World)(g:Nat)(x:Gd):World:=(W.setCell ⟨g,0,none⟩ (.int .u64 (x.1:Int))).setCell ⟨g,1,none⟩ (.int .u64 (x.2:Int))
theorem aJ (W:World)(g:Nat)(x:Gd)(k:Nat)(h:k≠g):(lq W g x).heap[k]?=W.heap[k]? :=by
 unfold lq;rw[qy _ _ _ _ _ h,qy _ _ _ _ _ h]
theorem xN {w W:World}{B g:Nat}(x:Gd)(h:Below B w W)(hg:B≤g):Below B w (lq W g x) :=
 (h.setCell (p:=⟨g,0,none⟩) hg _).setCell (p:=⟨g,1,none⟩) hg _
theorem qew{W:World}{g:Nat}(x:Gd){y z:Value}(h:qd W g 38 #[y,z]):qd (lq W g x) g 38 (gC x):=by
 have:=(h.qo 0 (.int .u64 (x.1:Int))).qo 1 (.int .u64 (x.2:Int));simpa[lq,gC]using this
theorem qiz{W:World}{g:Nat}{x:Gd}(h:qd W g 38 (gC x)):(loadVar 38 ⟨g,0,none⟩).run prog W=.ok (gv x) W :=
 run_loadVar_row W g 38 38 _ (0,0) _ h underlying38 rfl (by kernel_rfl)
def stB (b:Bool)(g:Nat)(x:Gd)(W:World):World:=if b=true then lq W g x else W
def AsG (p:Value)(g6:Nat)(n:Nat)(L T:Gd)(nx:Int):Nat→Value→Prop
 | 0,v=>v=p
 | 1,v=>∃A c,v=.slice A n c
 | 2,v=>v=.int .i64 (n:Int)
 | 3,v=>v=p
 | 4,v=>v=gv L
 | 5,v=>v=.pointer (some ⟨g6,2,none⟩)
 | 6,v=>v=gv T
 | 7,v=>v=.pointer (some ⟨g6,4,none⟩)
 | 8,v=>v=.int .i64 nx
 | 9,v=>v=.int .i64 (n:Int)
 | 12,v=>v=.int .i64 nx
 | _,_=>True
structure AsI(V:World)(p:Value)(g3 g4 g6 n:Nat)(L T:Gd)(nx:Int)(Ls:Nat→Bool)(vs:Nat→Value)(W:World):Prop where
 g:∀i,Ls i=true→AsG p g6 n L T nx i (vs i)
 a:Ls 10=true→Ls 1=true∧Ls 4=true
 b:Ls 11=true→Ls 10=true
 w:∃W',Below V.heap.size V W'∧W=stB (Ls 11) g4 T (stB (Ls 10) g3 L W')
theorem zu {L:Nat→Bool}{i j:Nat}(h:j≠i):qP L i j=L j:=by simp only[qP];rw[if_neg h]
theorem bn (L:Nat→Bool)(i:Nat):qP L i i=true:=by simp[qP]
theorem AsI.words{V:World}{p:Value}{g3 g4 g6 n:Nat}{L T:Gd}{nx:Int}{Ls:Nat→Bool}{vs:Nat→Value}{W:World}(h:AsI V p g3 g4 g6 n L T nx Ls vs W){i:Nat}{v:Value}(hv:AsG p g6 n L T nx i v) :
    ∀k,qP Ls i k=true→AsG p g6 n L T nx k (zE vs i v k):=fun k hk=>by
 by_cases yr:k=i
 ·subst yr;simpa[zE]using hv
 ·rw[zu yr]at hk;simpa[zE,yr]using h.g k hk
theorem AsI.val{V:World}{p:Value}{g3 g4 g6 n:Nat}{L T:Gd}{nx:Int}{Ls:Nat→Bool}{vs:Nat→Value}{W:World}(h:AsI V p g3 g4 g6 n L T nx Ls vs W){i:Nat}{v:Value}(h10:i≠10)(h11:i≠11)(hv:AsG p g6 n L T nx i v) :
    AsI V p g3 g4 g6 n L T nx (qP Ls i) (zE vs i v) W:=by
 have e10:qP Ls i 10=Ls 10:=zu (Ne.symm h10);have e11:qP Ls i 11=Ls 11:=zu (Ne.symm h11);have up:∀k,Ls k=true→qP Ls i k=true:=fun k hk=>by
  by_cases yr:k=i
  ·subst yr;exact bn _ _
  ·rw[zu yr];exact hk
 refine⟨h.words hv,fun hk=>?_,fun hk=>?_,?_⟩
 ·rw[e10]at hk;exact⟨up 1 (h.a hk).1,up 4 (h.a hk).2⟩
 ·rw[e11]at hk;rw[e10];exact h.b hk
 ·rw[e10,e11];exact h.w
theorem AsI.call{V:World}{p:Value}{g3 g4 g6 n:Nat}{L T:Gd}{nx:Int}{Ls:Nat→Bool}{vs:Nat→Value}{W W':World}(h:AsI V p g3 g4 g6 n L T nx Ls vs W){i:Nat}{v:Value}(hi:i=1∨i=4)(dc:Ls i=false)(hb:Below W.heap.size W W')(hv:AsG p g6 n L T nx i v) :
    AsI V p g3 g4 g6 n L T nx (qP Ls i) (zE vs i v) W':=by
 have f10:Ls 10=false:=by
  cases hx:Ls 10 with
  | false=>rfl
  | true =>
   have:=h.a hx;rcases hi with rfl|rfl
   ·rw[dc]at this;cases this.1
   ·rw[dc]at this;cases this.2
 have f11:Ls 11=false:=by
  cases hx:Ls 11 with
  | false=>rfl
  | true=>have:=h.b hx;rw[f10]at this;cases this
 have e10:qP Ls i 10=false:=by rw[zu (by omega)];exact f10
 have e11:qP Ls i 11=false:=by rw[zu (by omega)];exact f11
 obtain⟨W0,h1,h2⟩:=h.w;rw[f10,f11]at h2;have h3:W=W0:=h2;subst h3;refine⟨h.words hv,fun hk=>?_,fun hk=>?_,W',qa h1 hb,?_⟩
 ·rw[e10]at hk;cases hk
 ·rw[e11]at hk;cases hk
 ·rw[e10,e11];rfl
theorem vZ {P:Program}{o:Oper}{ρ:Operand→Value}{w w':World}{f:FuncId}{args:Array Value}{K:Value→World→Prop}(h:(execOp ρ o).run P w=.ok (.enter f args) w')(hk:Calls P f args w' fun e w''=>∃v,e=.returned v∧K v w''):vI P K ((execOp ρ o).run P w):=by
 rw[h];exact hk
def rH (n:Nat)(L T:Gd)(nx:Int):Value:=.tuple #[.int .i64 (n:Int),gv L,gv T,.int .i64 nx]
theorem qbW{fn:Func}{p q r s:Tmp}{t u:TypeId}(h:fn.results = #[.tmp p,.cell q t,.cell r u,.tmp s])(tmps:Array Value)(P:Program)(w:World)(a b:Addr)(v1 v2 v3 v4:Value)
    (hp:tmps.getD p undef=v1) (hq:tmps.getD q undef=.pointer (some a)) (hr:tmps.getD r undef=.pointer (some b)) (hs:tmps.getD s undef=v4) (h1:(loadVar t a).run P w=.ok v2 w) (h2:(loadVar u b).run P w=.ok v3 w):(results fn tmps).run P w=.ok (.tuple #[v1,v2,v3,v4]) w:=by
 simp only[results,h];simp only[Array.getD_eq_getD_getElem?]at hp hq hr hs;simp[Sem.run_bind,Result.andThen,asAddr,hp,hq,hr,hs,h1,h2]
theorem rI {gs:List Gd}{t:Tk}{p:Value}{w:World}(hl:gs.length≤1000)(hL:∀W,Below w.heap.size w W→Calls prog 37 #[p] W (ch.oW gs W))(hT:∀W,Below w.heap.size w W→Calls prog 41 #[p] W (vt.cY t W)) :
    Calls prog 27 #[p] w fun e w'=>e=.returned (rH gs.length (uf gs) t.target t.next)∧Below w.heap.size w w':=by
 have hb1:=(Below.refl _ w).alloc (Nat.le_refl _) (.cells #[.int .u64 0,.int .u64 0] 38);have hr1:=qd.new w 38 #[.int .u64 0,.int .u64 0];obtain⟨W1,hW1⟩:=QE (w.alloc (.cells #[.int .u64 0,.int .u64 0] 38));rw[hW1]at hb1 hr1;have hb2:=(Below.refl _ W1).alloc (Nat.le_refl _) (.cells #[.int .u64 0,.int .u64 0] 38);have hr2:=qd.new W1 38 #[.int .u64 0,.int .u64 0];obtain⟨W2,hW2⟩:=QE (W1.alloc (.cells #[.int .u64 0,.int .u64 0] 38));rw[hW2]at hb2 hr2;have qC:=QH (qa hb1 hb2);have iD:=QH (hr1.below hb2);have rM:Hid (w.heap.size<W1.heap.size):=hr1.lt;obtain⟨g3,hg3⟩:=QE w.heap.size;have qd0:W1.heap.size=g3+1:=by rw[← hW1,← hg3];simp
 obtain⟨g4,hg4⟩:=QE (g3+1);have gJ:Hid (w.heap.size≤g3∧w.heap.size≤g4∧g3≠g4):=⟨by omega,by have:=rM.out;omega,by have:=rM.out;omega⟩;rw[qd0,hg4]at hr2;have n4:=QH hr2;have q2I:Hid (qd W2 g3 38 #[.int .u64 0,.int .u64 0]):=by rw[← hg3];exact iD.out
 have HG3:=QH hg3;have HG4:=QH hg4;have sg:=QH hW1;have HW2:=QH hW2;have HL:=QH hL;have ua:=QH (hT W2 qC.out);clear hb1 hr1 hb2 hr2 hW1 hW2 iD rM hg3 hg4 qd0 hL hT;go_enter func27,ntmps27;go_upto_region 1 with fail;try rw[sg.out]
 try rw[HG3.out]
 try rw[HG4.out]
 try rw[HW2.out]
 clear sg HW2 HG3 HG4;go_wp2_with fail;refine ua.out.mono ?_;rintro e W3 ⟨B,c,rfl,-,-,hb⟩;have zB:=QH (qa qC.out hb);have HE3:=QH (q2I.out.below hb);have HE4:=QH (n4.out.below hb);have q2J:Hid (g3<W3.heap.size∧g4<W3.heap.size):=⟨HE3.out.lt,HE4.out.lt⟩;clear hb ua qC q2I n4;rw[show vt.tkV (vt.tf t) B t.qu.length c=.agg (vt.pg.vg (vt.tf t) B t.qu.length c)from rfl];obtain⟨n,hn⟩:=QE t.qu.length;rw[hn];clear hn;have cb:=(Below.refl W3.heap.size W3).alloc (Nat.le_refl _) (.cells (vt.pg.vg (vt.tf t) B n c) 82);have kb:=qd.new W3 82 (vt.pg.vg (vt.tf t) B n c);unfold vt.pg.vg vt.tf at *;dsimp only at *;obtain⟨W4,hWn⟩:=QE (W3.alloc (.cells #[.int .u64 (t.base.1:Int),.int .u64 (t.base.2:Int),.int .u64 (t.target.1:Int),.int .u64 (t.target.2:Int),.int .i64 t.next,.int .i64 t.all,.slice B n c] 82));rw[hWn]at cb kb;obtain⟨g6,hg⟩:=QE W3.heap.size;have tH:Hid (g6≠g3∧g6≠g4):=by have:=q2J.out;exact⟨by omega,by omega⟩
 rw[hg]at kb;have zT:=QH (qa zB.out cb);have HF3:=QH (HE3.out.below cb);have HF4:=QH (HE4.out.below cb);have HK:=QH kb;have HWn:=QH hWn;have HGn:=QH hg;clear cb kb hWn hg zB HE3 HE4 q2J;go_upto_region 2 with fail;try rw[HWn.out]
 try rw[HGn.out]
 clear HWn HGn;generalize ht:t.target=T at *;generalize hnx:t.next=nx at *;refine aI (by kernel_rfl) [9,10,11,12,13,14,15,16,17,2,18,19,5] (by kernel_rfl) (fun Ls vs W=>AsI W4 p g3 g4 g6 gs.length (uf gs) T nx Ls vs W) ⟨fun i hi=>(by cases hi),fun h=>(by cases h),fun h=>(by cases h),W4.drew,(Below.refl _ _).drew,rfl⟩ ?_ ?_ ?_
 ·intro i o Ls vs ρ W ho dc qw hρ hgd hI;have q0v:i<13:=(Array.getElem?_eq_some_iff.1 ho).1;have hc:=hρ.const;have hfn:=hρ.fn;have t0:ρ (.tmp 0)=p:=hρ.out 0 rfl;have t3:ρ (.tmp 3)=pt g3:=hρ.out 3 rfl;have t4:ρ (.tmp 4)=pt g4:=hρ.out 4 rfl;have t6:ρ (.tmp 6)=pt g6:=hρ.out 6 rfl;obtain⟨W',uK,hWW⟩:=hI.w;have q2K:W.heap[g6]?=W'.heap[g6]? :=by
   rw[hWW];unfold stB;split <;> split <;> simp only[aJ _ _ _ _ tH.out.1,aJ _ _ _ _ tH.out.2]
  have rT:=(HK.out.below uK).of_block q2K;have HWW:=QH hWW;clear hWW;have q2:=rT.cell 2;have q3:=rT.cell 3;have q4:=rT.cell 4;have ql:=rT.lt;simp only[QA,QB,QC]at q2 q3 q4;rcases i with _|_|_|_|_|_|_|_|_|_|_|_|_|i;all_goals (first|omega|skip)
  all_goals simp only[QA,QB,QC,Option.some.injEq]at ho
  all_goals subst ho
  ·exact qD (w':=W) (by unfold execOp;simp only[t0];go_simp) (hI.val (by decide) (by decide) rfl)
  ·have s9:ρ (.tmp 9)=p:=(hρ.at_ 9 0 rfl).trans (hI.g 0 (qw 0 (by kernel_rfl)));have hbW:Below w.heap.size w W:=by
    rw[HWW.out];unfold stB;have hq:=qa zT.out uK;split <;> split
    ·exact xN _ (xN _ hq gJ.out.1) gJ.out.2.1
    ·exact xN _ hq gJ.out.2.1
    ·exact xN _ hq gJ.out.1
    ·exact hq
   refine vZ (f:=37) (args:=#[p]) (w':=W) (by unfold execOp;simp only[hfn,s9];go_simp) ((HL.out W hbW).mono ?_);rintro e W'' ⟨A1,c1,rfl,_,_,hb5⟩;exact⟨_,rfl,hI.call (.inl rfl) dc hb5 ⟨A1,c1,rfl⟩⟩
  ·obtain⟨A1,c1,g1⟩:=hI.g 1 (qw 1 (by kernel_rfl));have s10:ρ (.tmp 10)=.slice A1 gs.length c1:=(hρ.at_ 10 1 rfl).trans g1;exact qD (w':=W) (by unfold execOp;simp only[s10,hc];go_simp) (hI.val (by decide) (by decide) rfl)
  ·exact qD (w':=W) (by unfold execOp;simp only[t0];go_simp) (hI.val (by decide) (by decide) rfl)
  ·have s12:ρ (.tmp 12)=p:=(hρ.at_ 12 3 rfl).trans (hI.g 3 (qw 3 (by kernel_rfl)));have hbW:Below w.heap.size w W:=by
    rw[HWW.out];unfold stB;have hq:=qa zT.out uK;split <;> split
    ·exact xN _ (xN _ hq gJ.out.1) gJ.out.2.1
    ·exact xN _ hq gJ.out.2.1
    ·exact xN _ hq gJ.out.1
    ·exact hq
   refine vZ (f:=81) (args:=#[p]) (w':=W) (by unfold execOp;simp only[hfn,s12];go_simp) ((rB hl (fun W'' q7B=>HL.out W'' (qa hbW q7B))).mono ?_);rintro e W'' ⟨rfl,hb5⟩;exact⟨_,rfl,hI.call (.inr rfl) dc hb5 rfl⟩
  ·exact qD (w':=W) (by unfold execOp;simp only[t6];go_simp) (hI.val (by decide) (by decide) rfl)
  ·have s14:ρ (.tmp 14)=.pointer (some ⟨g6,2,none⟩):=(hρ.at_ 14 5 rfl).trans (hI.g 5 (qw 5 (by kernel_rfl)));exact qD (w':=W) (by unfold execOp gv;simp only[s14];go_simp) (hI.val (by decide) (by decide) rfl)
  ·exact qD (w':=W) (by unfold execOp;simp only[t6];go_simp) (hI.val (by decide) (by decide) rfl)
  ·have s16:ρ (.tmp 16)=.pointer (some ⟨g6,4,none⟩):=(hρ.at_ 16 7 rfl).trans (hI.g 7 (qw 7 (by kernel_rfl)));exact qD (w':=W) (by unfold execOp;simp only[s16];go_simp) (hI.val (by decide) (by decide) rfl)
  ·have s11:ρ (.tmp 11)=.int .i64 (gs.length:Int):=(hρ.at_ 11 2 rfl).trans (hI.g 2 (qw 2 (by kernel_rfl)));exact qD (w':=W) (by unfold execOp;simp only[s11];go_simp) (hI.val (by decide) (by decide) rfl)
  ·have f11:Ls 11=false:=by
      cases hx:Ls 11 with
      | false=>rfl
      | true=>have:=hI.b hx;rw[dc]at this;cases this
   have hWW:=HWW.out;rw[dc,f11]at hWW;have q7C:W=W':=hWW;clear hWW HWW;subst q7C;have tv:ρ (.tmp 13)=gv (uf gs):=(hρ.at_ 13 4 rfl).trans (hI.g 4 (qw 4 (by kernel_rfl)));have hk3:=HF3.out.below uK;have r0:=hk3.cell 0;have r1:=hk3.cell 1;have f0:=hk3.frozen 0;have f1:=hk3.frozen 1;have rl:=hk3.lt;simp only[QA,QB,QC]at r0 r1;unfold gv at tv;have y4:=qw 4 (by kernel_rfl);have y1:=qw 1 (by kernel_rfl);refine gH (w':=lq W g3 (uf gs)) (by unfold execOp lq;simp only[t3,tv];go_simp) ⟨hI.words trivial,fun _=>?_,fun _=>bn _ _,W,uK,?_⟩
   ·rw[zu (by decide),zu (by decide)];exact⟨y1,y4⟩
   ·rw[bn,zu (by decide),f11];rfl
  ·have y10:Ls 10=true:=qw 10 (by kernel_rfl);have hWW:=HWW.out;rw[dc,y10]at hWW;have HWX:Hid (W=lq W' g3 (uf gs)):=hWW;clear hWW HWW;have s15:ρ (.tmp 15)=gv T:=(hρ.at_ 15 6 rfl).trans (hI.g 6 (qw 6 (by kernel_rfl)));have hk4:qd W g4 38 #[.int .u64 0,.int .u64 0]:=(HF4.out.below uK).of_block (by rw[HWX.out,aJ _ _ _ _ (Ne.symm gJ.out.2.2)]);have r0:=hk4.cell 0;have r1:=hk4.cell 1;have f0:=hk4.frozen 0;have f1:=hk4.frozen 1;have rl:=hk4.lt;simp only[QA,QB,QC]at r0 r1;unfold gv at s15;have hya:=hI.a y10;refine gH (w':=lq W g4 T) (by unfold execOp lq;simp only[t4,s15];go_simp) ⟨hI.words trivial,fun _=>?_,fun _=>?_,W',uK,?_⟩
   ·rw[zu (by decide),zu (by decide)];exact hya
   ·rw[zu (by decide)];exact y10
   ·rw[bn,zu (by decide),y10,HWX.out];rfl
  ·have s17:ρ (.tmp 17)=.int .i64 nx:=(hρ.at_ 17 8 rfl).trans (hI.g 8 (qw 8 (by kernel_rfl)));exact qD (w':=W) (by unfold execOp;simp only[s17];go_simp) (hI.val (by decide) (by decide) rfl)
 ·intro i o L1 vs W j want ho dc qw hgd;exfalso;have q0v:i<13:=(Array.getElem?_eq_some_iff.1 ho).1;rcases i with _|_|_|_|_|_|_|_|_|_|_|_|_|i;all_goals (first|omega|skip)
  all_goals simp only[QA,QB,QC,Option.some.injEq]at ho
  all_goals subst ho
  all_goals simp only[reduceCtorEq]at hgd
 intro vs WE hI;obtain⟨W5,hb,mR⟩:=hI.w;have qtj:WE=lq (lq W5 g3 (uf gs)) g4 T:=mR;have v2:vs 9=.int .i64 (gs.length:Int):=hI.g 9 (by kernel_rfl);have v5:vs 12=.int .i64 nx:=hI.g 12 (by kernel_rfl);have hk3:qd WE g3 38 (gC (uf gs)):=(qew (uf gs) (HF3.out.below hb)).of_block (by rw[qtj,aJ _ _ _ _ gJ.out.2.2]);have hk4:qd WE g4 38 (gC T):=by
  rw[qtj];exact qew T ((HF4.out.below hb).of_block (aJ _ _ _ _ (Ne.symm gJ.out.2.2)))
 have bH:Hid (Below w.heap.size w WE):=by
  unfold Hid;rw[qtj];exact xN _ (xN _ (qa zT.out hb) gJ.out.1) gJ.out.2.1
 have HL3:=QH (qiz hk3);have HL4:=QH (qiz hk4);clear hI mR qtj hk3 hk4 hb;simp only[qX,qK,if_true];rw[v2,v5];generalize vs 0=y0;generalize vs 1=y1;generalize vs 2=y2;generalize vs 3=y3;generalize vs 4=y4;generalize vs 5=y5;generalize vs 6=y6;generalize vs 7=y7;generalize vs 8=y8;generalize vs 10=y10;generalize vs 11=y11;clear v2 v5;simp only[Act.put,List.setIfInBounds_toArray,List.set_cons_succ,List.set_cons_zero,List.set_nil];go_wp2_with fail;exact bodyPost_ret (v:=rH gs.length (uf gs) T nx) (qbW rfl _ _ _ ⟨g3,0,none⟩ ⟨g4,0,none⟩ _ _ _ _ rfl rfl rfl rfl HL3.out HL4.out) rfl ⟨by rw[ht,hnx],bH.out⟩
end Go.Proofs.YtdpbdkacngaemaaGreatDoor.rv
namespace Go.Proofs.YtdpbdkacngaemaaGreatDoor.st
open _root_.Go.Proofs.Tryz Go Go.RowKit Go.Sort ib wi mt
open ch (kR xL xq jU)
end Go.Proofs.YtdpbdkacngaemaaGreatDoor.st
namespace Go.Proofs
open _root_.Go.Proofs.Tryz Go.Shelf
def Tryz.qbX:Go.Shelf.Ren:=⟨fun | 316=>275|n=>n,fun | 9=>9 | 3=>3 | 4=>4 | 37=>64 | 0=>0 | 127=>330 | 5=>5|n=>n,fun|n=>n⟩
theorem Tryz.qpM:Go.Proofs.LaysM.n316 prog Tryz.qbX:={
 mixed:=by kernel_rfl
 f316:=func275.trans (congrArg some (by kernel_rfl))
 t0:=underlying0
 a0:=isAgg0
 z0:=sizeOf0
 v0:=zeroValue0
 t3:=underlying3
 a3:=isAgg3
 z3:=sizeOf3
 v3:=zeroValue3
 t4:=underlying4
 a4:=isAgg4
 z4:=sizeOf4
 v4:=zeroValue4
 t9:=underlying9
 a9:=isAgg9
 z9:=sizeOf9
 v9:=zeroValue9
 t37:=underlying64
 a37:=isAgg64
 z37:=sizeOf64
 v37:=zeroValue64
 t127:=underlying330
 a127:=isAgg330
 z127:=sizeOf330
 v127:=zeroValue330
 t5:=underlying5
 a5:=isAgg5
 z5:=sizeOf5
 v5:=zeroValue5
 i0:=by kernel_rfl
 i3:=by kernel_rfl
 i4:=by kernel_rfl
 i5:=by kernel_rfl
 i9:=by kernel_rfl
 i37:=by kernel_rfl
 i127:=by kernel_rfl }
open Go.RowKit in
theorem Tryz.stringslite_Clone(s:ByteArray)(w:World)(q7D:s.size≤281474976710656) :
    Calls prog 275 #[.string s] w fun e w'=>e=.returned (.string s)∧Below w.heap.size w w':=Any.stringslite_Clone Tryz.qpM s w q7D
end Go.Proofs
namespace Go.Proofs.YtdpbdkacngaemaaGreatDoor.st
open _root_.Go.Proofs.Tryz Go Go.RowKit Go.Sort ib wi mt
open ch (kR xL xq jU)
theorem q7E(z:Int)(S:ByteArray):∀u∈([Value.int .i64 z,.string S]:List Value),u.oneCell'=true:=by
 intro u hu;simp only[List.mem_cons,List.not_mem_nil,or_false]at hu;rcases hu with rfl|rfl <;> rfl
theorem qpN{W:World}{g:Nat}{t:TypeId}{u v:Value}(h:qd W g t #[u,v]):∀(j:Nat) (x:Value),([u,v]:List Value)[j]?=some x→W.cell? ((⟨g,0,none⟩:Addr).add j)=some x:=by
 intro j x hj
 match j,hj with
 | 0,hj =>
  simp only[List.getElem?_cons_zero,Option.some.injEq]at hj;subst hj;rw[addr_add];exact h.cell 0
 | 1,hj =>
  simp only[List.getElem?_cons_succ,List.getElem?_cons_zero,Option.some.injEq]at hj;subst hj;rw[addr_add];exact h.cell 1
theorem qlg{w1:World}{B:Nat}{v':Value}{l:List Ch}{x:Ch}(h:w1.ownsRow B 122 2 v' (l.length+1) (xq l++[.int .i64 x.1,.string (str x.2)])):xL w1 B v' (l++[x]):=Go.Proofs.YtdpbdkacngaemaaGreatDoor.ch.xL.snoc h
theorem l8 (S:ByteArray)(w:World)(h:S.size≤1000000):Calls prog 238 #[.string S] w (sS S w):=by
 have HC:=QH (Tryz.stringslite_Clone S w (by omega));go_enter func238,ntmps238;go_wp2_with fail;refine HC.out.mono ?_;rintro e W1 ⟨rfl,hb⟩;have HB:=QH hb;clear hb;go_wp2_with fail;go_ret;exact⟨rfl,HB.out⟩
def OwG (A5:Option Addr)(k c5 gx:Nat)(x1:Int)(S:ByteArray):Nat→Value→World→Prop
 | 0,v,_=>v=.slice A5 k c5
 | 1,v,_=>v=.pointer (some ⟨gx,0,none⟩)
 | 2,v,_=>v=.int .i64 x1
 | 3,v,_=>v=.pointer (some ⟨gx,1,none⟩)
 | 4,v,_=>v=.string S
 | 5,v,_=>v=.string S
 | 6,v,_=>v=.agg #[.int .i64 x1,.string S]
 | 7,v,W=>∃g,v=.slice (some ⟨g,0,none⟩) 1 1∧qd W g 122 #[.int .i64 x1,.string S]
 | _,_,_=>True
theorem qpO(A5:Option Addr)(k c5 gx:Nat)(x1:Int)(S:ByteArray)(i:Nat)(v:Value)(w w':World)(hi:i<8)(h:OwG A5 k c5 gx x1 S i v w)(hb:Below w.heap.size w w'):OwG A5 k c5 gx x1 S i v w':=by
 match i,hi,h with
 | 0,_,h | 1,_,h | 2,_,h | 3,_,h | 4,_,h | 5,_,h | 6,_,h=>exact h
 | 7,_,⟨g,h1,h2⟩=>exact⟨g,h1,h2.below hb⟩
 | j+8,hi,_=>exact absurd hi (by omega)
def q2L (l:List Ch)(w:World)(v i:Value)(wr:World):Prop :=
 ∃k:Nat,k≤l.length∧i=.int .i64 (k:Int)∧xL wr w.heap.size v (l.take k)∧Below w.heap.size w wr
def qxE (l:List Ch)(w:World)(e:Ending)(w':World):Prop:=∃v,e=.returned v∧xL w' w.heap.size v l∧Below w.heap.size w w'
theorem qtk(A:Option Addr)(cp:Nat)(l:List Ch)(w:World)(h:kR w A l)(hl:l.length≤1000)(ht:∀c∈l,c.2.length≤1000000) :
    Calls prog 163 #[.slice A l.length cp] w (qxE l w):=by
 obtain⟨i0,hi,hz0,hz1,hz2⟩:=info_parts jU;have HC:=QH h;have HT:=QH ht;clear h ht;obtain⟨len,hlen⟩:=QE l.length;have lT:=QH hlen;rw[hlen]at hl ⊢;clear hlen;go_enter func163,ntmps163;go_wp2_with fail;go_loopw [3,5,8] (fun v _ i wr=>q2L l w v i wr) (fun _ _ i _=>len-(intOf i).toNat);case atStart=>exact⟨0,Nat.zero_le _,rfl,World.ownsRow_nil _ _ _ _,Below.refl _ _⟩
 case round =>
  obtain⟨k,hk,rfl,ho,hB⟩:=hrel;have HO:=QH ho;have HB:=QH hB;rw[lT.out]at hk;clear ho hB;obtain⟨A5,c5,rfl⟩:=xQ HO.out;have gK:Hid ((l.take k).length=k):=by unfold Hid;rw[List.length_take,lT.out];omega
  rw[gK.out]at HO ⊢;by_cases hlt:k<len
  ·have yr:(k:Int)<(len:Int):=by omega
   have iV:k<l.length:=by rw[lT.out];exact hlt
   obtain⟨bb,bo,rfl,hbb,c0,c1,cb⟩:=HC.out k iV;have jC:Hid (l.take (k+1)=l.take k++[l[k]]):=List.take_succ_eq_append_getElem iV;have hth:=HT.out _ (List.getElem_mem iV);obtain⟨x,hx⟩:=QE (l[k]);rw[hx]at c0 c1 cb jC hth;have e0:wr.cell? ⟨bb,bo+k*2,none⟩=some (.int .i64 x.1):=by rw[HB.out.cell (p:=⟨bb,bo+k*2,none⟩) hbb];exact c0
   have e1:wr.cell? ⟨bb,bo+k*2+1,none⟩=some (.string (str x.2)):=by rw[HB.out.cell (p:=⟨bb,bo+k*2+1,none⟩) hbb];exact c1
   have lb:bb<wr.heap.size:=Nat.lt_of_lt_of_le hbb HB.out.size;have kK:Hid (∀W,Calls prog 238 #[.string (str x.2)] W (sS (str x.2) W)):=fun W=>l8 _ W (by rw[qQ];exact hth);obtain⟨x1,hx1⟩:=QE x.1;obtain⟨S,hS⟩:=QE (str x.2);rw[hx1]at e0;rw[hS]at e1 kK;have HX1:=QH hx1;have HS:=QH hS;clear hx c0 c1 cb hth hx1 hS;obtain⟨W1,hW1⟩:=QE (wr.alloc (.cells #[.int .i64 x1,.string S] 122));have hb1:Below wr.heap.size wr W1:=by rw[← hW1];exact(Below.refl _ wr).alloc (Nat.le_refl _) _
   have HX:Hid (qd W1 wr.heap.size 122 #[.int .i64 x1,.string S]):=by rw[← hW1];exact qd.new _ _ _
   have qT:=QH (qa HB.out hb1);have HO1:Hid (xL W1 w.heap.size (.slice A5 k c5) (l.take k)):=zf HO.out (fun j hj=>hb1.block j (HO.out.lt j hj).2);clear hb1 HO;go_upto_region 5 with fail;try rw[hW1]
   clear hW1 e0 e1;obtain⟨gx,hgx⟩:=QE wr.heap.size;rw[hgx]at HX;try rw[hgx]
   clear hgx;refine qV (by kernel_rfl) 8 [12,13,14,15,16,17,18,19] (by kernel_rfl) (OwG A5 k c5 gx x1 S) (qpO _ _ _ _ _ _ ) ?_ ?_
   ·intro i o vs ρ W hi ho hρ hfn hb hG;have hc:=hρ.const;have hx:=HX.out.below hb;have x0:=hx.cell 0;have x1':=hx.cell 1;have eH:=hx.lt;simp only[QA,QB,QC]at x0 x1';rcases i with _|_|_|_|_|_|_|_|i;all_goals (first|omega|skip)
    all_goals simp only[QA,QB,QC,Option.some.injEq]at ho
    all_goals subst ho
    ·have o3:ρ (.tmp 3)=.slice A5 k c5:=hρ.out 3 rfl;exact q9 (w':=W) (by unfold execOp;simp only[o3,hc];go_simp) ⟨Below.refl _ _,rfl⟩
    ·have o5:ρ (.tmp 5)=.pointer (some ⟨gx,0,none⟩):=hρ.out 5 rfl;exact q9 (w':=W) (by unfold execOp;simp only[o5,hc];go_simp) ⟨Below.refl _ _,rfl⟩
    ·have g13:vs 1=.pointer (some ⟨gx,0,none⟩):=hG 1 (by kernel_rfl);have tv:=(hρ.at_ 13 1 rfl).trans g13;exact q9 (w':=W) (by unfold execOp;simp only[tv,hc];go_simp) ⟨Below.refl _ _,rfl⟩
    ·have o5:ρ (.tmp 5)=.pointer (some ⟨gx,0,none⟩):=hρ.out 5 rfl;exact q9 (w':=W) (by unfold execOp;simp only[o5,hc];go_simp) ⟨Below.refl _ _,rfl⟩
    ·have g15:vs 3=.pointer (some ⟨gx,1,none⟩):=hG 3 (by kernel_rfl);have s15:=(hρ.at_ 15 3 rfl).trans g15;exact q9 (w':=W) (by unfold execOp;simp only[s15,hc];go_simp) ⟨Below.refl _ _,rfl⟩
    ·have g16:vs 4=.string S:=hG 4 (by kernel_rfl);have s16:=(hρ.at_ 16 4 rfl).trans g16;refine qj (f:=238) (args:=#[.string S]) (w':=W) (by unfold execOp;simp only[hfn,s16];go_simp) ((kK.out W).mono ?_);rintro e W' ⟨rfl,hb'⟩;exact⟨_,rfl,hb',rfl⟩
    ·have g14:vs 2=.int .i64 x1:=hG 2 (by kernel_rfl);have s14:=(hρ.at_ 14 2 rfl).trans g14;have g17:vs 5=.string S:=hG 5 (by kernel_rfl);have s17:=(hρ.at_ 17 5 rfl).trans g17;exact q9 (w':=W) (by unfold execOp;simp only[s14,s17,hc];go_simp) ⟨Below.refl _ _,rfl⟩
    ·have g18:vs 6=.agg #[.int .i64 x1,.string S]:=hG 6 (by kernel_rfl);have s18:=(hρ.at_ 18 6 rfl).trans g18;exact q9 (w':=W.alloc (.cells #[.int .i64 x1,.string S] 122)) (v:=.slice (some ⟨W.heap.size,0,none⟩) 1 1) (by unfold execOp;simp only[s18];go_simp) ⟨(Below.refl _ W).alloc (Nat.le_refl _) _,W.heap.size,rfl,qd.new _ _ _⟩
   ·intro vs W hb hG;have g0:vs 0=.slice A5 k c5:=hG 0 (by decide);obtain⟨g,g7,zy⟩:=hG 7 (by decide);have B2:=QH (qa qT.out hb);have ue:Hid (W.ownsRow w.heap.size 122 2 (.slice A5 k c5) k (xq (l.take k))):=by
     have ho:=HO1.out;unfold xL at ho;rw[gK.out]at ho;exact zf ho (fun j hj=>hb.block j (ho.lt j hj).2)
    have au:=QH (qpN zy);simp only[qX,qK,if_true];rw[g0,g7];generalize vs 1=y1;generalize vs 2=y2;generalize vs 3=y3;generalize vs 4=y4;generalize vs 5=y5;generalize vs 6=y6;clear hG g0 g7 zy;simp only[Act.put,List.setIfInBounds_toArray,List.set_cons_succ,List.set_cons_zero];refine qM (i:=8) (by kernel_rfl) rfl rfl ?_;refine wp_append_own W (.tmp 12) (.tmp 19) 39 rfl w.heap.size 122 i0 (.agg #[.int .i64 0,.string ByteArray.empty]) 2 24 underlying39 hi hz0 hz1 hz2 rfl (by decide) _ k _ rfl ue.out ⟨g,0,none⟩ 1 1 [.int .i64 x1,.string S] rfl rfl au.out (q7E _ _) (by unfold maxLen;omega) (by omega) B2.out.size ?_;intro v' w1 hown hgrow _;have zB:=QH (B2.out.grown hgrow B2.out.size (fun j hj=>(ue.out.lt j hj).1));have HOS:Hid (xL w1 w.heap.size v' (l.take (k+1))):=by
     unfold Hid;rw[jC.out];refine qlg ?_;rw[gK.out,HX1.out,HS.out];exact hown
    clear hown hgrow hb;go_simp;refine qM (i:=9) (by kernel_rfl) rfl rfl ?_;go_simp;refine⟨by kernel_rfl,?_⟩;go_wp2_with fail;go_roundw;case rel=>exact⟨k+1,by rw[lT.out];omega,by go_num,HOS.out,zB.out⟩
    case measure=>simp[intOf];omega
  ·have yr:¬ (k:Int)<(len:Int):=by omega
   have HE:Hid (l.take k=l):=List.take_of_length_le (by rw[lT.out];omega);go_wp2_with fail;go_ret;exact⟨_,rfl,by rw[← HE.out];exact HO.out,HB.out⟩
def pC (g t:Gd)(fr all:Int)(v:Value):Array Value:=#[.int .u64 (g.1:Int),.int .u64 (g.2:Int),.int .u64 (t.1:Int),.int .u64 (t.2:Int),.int .i64 fr,.int .i64 all,v]
def pZ:Array Value:=#[.int .u64 0,.int .u64 0,.int .u64 0,.int .u64 0,.int .i64 0,.int .i64 0,.slice none 0 0]
def bV:Value:=.slice none 0 0
theorem wN:pZ=pC (0,0) (0,0) 0 0 bV:=rfl
def yT (W:World)(b:Nat)(g t:Gd)(fr all:Int)(v:Value):World :=
 ((((((W.setCell ⟨b,0,none⟩ (.int .u64 (g.1:Int))).setCell ⟨b,1,none⟩ (.int .u64 (g.2:Int))).setCell ⟨b,2,none⟩ (.int .u64 (t.1:Int))).setCell ⟨b,3,none⟩ (.int .u64 (t.2:Int))).setCell ⟨b,4,none⟩ (.int .i64 fr)).setCell ⟨b,5,none⟩ (.int .i64 all)).setCell ⟨b,6,none⟩ v
theorem jI {W:World}{b:Nat}{g t g' t':Gd}{fr all fr' q7H:Int}{v v':Value}(h:qd W b 41 (pC g' t' fr' q7H v')):qd (yT W b g t fr all v) b 41 (pC g t fr all v):=by
 have h9:=((((((h.qo 0 (.int .u64 (g.1:Int))).qo 1 (.int .u64 (g.2:Int))).qo 2 (.int .u64 (t.1:Int))).qo 3 (.int .u64 (t.2:Int))).qo 4 (.int .i64 fr)).qo 5 (.int .i64 all)).qo 6 v;simp only[pC,List.setIfInBounds_toArray,List.set_cons_succ,List.set_cons_zero]at h9;exact h9
theorem yg {w W:World}{B b:Nat}{g t:Gd}{fr all:Int}{v:Value}(h:Below B w W)(hg:B≤b):Below B w (yT W b g t fr all v) :=
 ((((((h.setCell (p:=⟨b,0,none⟩) hg _).setCell (p:=⟨b,1,none⟩) hg _).setCell (p:=⟨b,2,none⟩) hg _).setCell (p:=⟨b,3,none⟩) hg _).setCell (p:=⟨b,4,none⟩) hg _).setCell (p:=⟨b,5,none⟩) hg _).setCell (p:=⟨b,6,none⟩) hg v
theorem bp (W:World)(b:Nat)(g t:Gd)(fr all:Int)(v:Value)(k:Nat)(h:k≠b):(yT W b g t fr all v).heap[k]?=W.heap[k]? :=by
 unfold yT;rw[qy _ _ _ _ _ h,qy _ _ _ _ _ h,qy _ _ _ _ _ h,qy _ _ _ _ _ h,qy _ _ _ _ _ h,qy _ _ _ _ _ h,qy _ _ _ _ _ h]
theorem uX (W:World)(b:Nat)(g t:Gd)(fr all:Int)(v:Value):(yT W b g t fr all v).heap.size=W.heap.size:=by
 unfold yT;simp only[World.size_setCell]
theorem qbY{W:World}{b:Nat}{g t:Gd}{fr all:Int}{v:Value}(h:qd W b 41 (pC g t fr all v)):(loadVar 41 ⟨b,0,none⟩).run prog W=.ok (.agg (pC g t fr all v)) W :=
 run_loadVar_row W b 41 41 _ (0,0) _ h underlying41 rfl (by kernel_rfl)
theorem xT {fn:Func}{p q:Tmp}{ty:TypeId}(h:fn.results = #[.cell p ty,.tmp q])(tmps:Array Value)(P:Program)(w:World)(a:Addr)(v1 v2:Value)
    (hp:tmps.getD p undef=.pointer (some a)) (hq:tmps.getD q undef=v2) (h1:(loadVar ty a).run P w=.ok v1 w):(results fn tmps).run P w=.ok (.tuple #[v1,v2]) w:=by
 simp only[results,h];simp only[Array.getD_eq_getD_getElem?]at hp hq;simp[Sem.run_bind,Result.andThen,asAddr,hp,hq,h1]
theorem qi0{W:World}{b:Nat}{g t:Gd}{fr all:Int}{v:Value}{A:Option Addr}{c:Nat}{p:Pa}(h:cV W A c p)(hn:∀b' o,A=some ⟨b',o,none⟩→b'≠b):cV (yT W b g t fr all v) A c p:=by
 refine⟨fun i hi=>?_,h.base,h.target,h.fr,h.all⟩;obtain⟨b',o,e1,e2,e3,e4,e5⟩:=h.zU i hi;have hblk:=bp W b g t fr all v b' (hn b' o e1);exact⟨b',o,e1,by rw[uX];exact e2,by rw[World.cell?_of_block (a:=⟨b',o+i*2,none⟩) hblk];exact e3,by rw[World.cell?_of_block (a:=⟨b',o+i*2+1,none⟩) hblk];exact e4,e5⟩
theorem qpP{w:World}{b o:Nat}{l:List Ch}(h:kR w (some ⟨b,o,none⟩) l)(k n:Nat):kR w (some ⟨b,o+k*2,none⟩) ((l.drop k).take n):=by
 intro i hi;have h1:i<n∧k+i<l.length:=by
  rw[List.length_take,List.length_drop]at hi;omega
 obtain⟨b',o',e,h2,h3,h4,h5⟩:=h (k+i) h1.2;simp only[Option.some.injEq,Addr.mk.injEq,and_true]at e;obtain⟨rfl,rfl⟩:=e;have hg:((l.drop k).take n)[i]=l[k+i]'h1.2:=by rw[List.getElem_take,List.getElem_drop]
 rw[hg];exact⟨b,o+k*2,rfl,h2,by rw[show o+k*2+i*2=o+(k+i)*2 by omega];exact h3,by rw[show o+k*2+i*2=o+(k+i)*2 by omega];exact h4,h5⟩
theorem qi1(l:List Ch)(k:Nat):((l.drop k).take 2).length=min (k+2) l.length-k:=by
 rw[List.length_take,List.length_drop];omega
theorem qpQ{w:World}{B:Nat}{v:Value}{l:List Ch}(h:xL w B v l)(hz:∀x∈l,kC x.1):∃a c,v=.slice a l.length c∧kR w a l∧∀b o,a=some ⟨b,o,none⟩→B≤b∧b<w.heap.size:=Go.Proofs.YtdpbdkacngaemaaGreatDoor.ch.xL.qo9 h hz
theorem qtl{w:World}{A:Option Addr}{l:List Ch}(h:kR w A l):∀x∈l,kC x.1:=fun x hx=>by
 obtain⟨i,hi,rfl⟩:=List.getElem_of_mem hx;obtain⟨_,_,_,_,_,_,h⟩:=h i hi;exact h
def qa5 (r:Pa × Int)(w:World)(e:Ending)(w':World):Prop:=∃A c,e=.returned (.tuple #[.agg (jL r.1 A c),.int .i64 r.2])∧cV w' A c r.1∧xL w' w.heap.size (.slice A r.1.zU.length c) r.1.zU∧wb w w' A∧Below w.heap.size w w'
theorem qa5.less{r:Pa × Int}{w:World}{e:Ending}{w':World}(h:qa5 r w e w'):qiD r w e w':=by
 obtain⟨A,c,h1,h2,_,h3,h4⟩:=h;exact⟨A,c,h1,h2,h3,h4⟩
theorem qi2{w WE:World}{b:Nat}{r:Pa × Int}{A:Option Addr}{c:Nat}{fn:Func}{p q:Tmp}(hf:fn.results = #[.cell p 41,.tmp q])(a:Act)(ha:a.defers=[])(hp:a.tmps.getD p undef=.pointer (some ⟨b,0,none⟩))(hq:a.tmps.getD q undef=.int .i64 r.2)
    (h:qd WE b 41 (pC r.1.base r.1.target r.1.fr r.1.all (.slice A r.1.zU.length c))) (hm:cV WE A c r.1) (ho:xL WE w.heap.size (.slice A r.1.zU.length c) r.1.zU) (hn:wb w WE A) (hb:Below w.heap.size w WE):bodyPost prog fn (qa5 r w) .ret a WE:=by
 have hl:=qbY h;refine bodyPost_ret (v:=.tuple #[.agg (jL r.1 A c),.int .i64 r.2]) ?_ ha ⟨A,c,rfl,hm,ho,hn,hb⟩;have e:jL r.1 A c=pC r.1.base r.1.target r.1.fr r.1.all (.slice A r.1.zU.length c):=rfl;rw[e];clear h hm e ho;generalize pC r.1.base r.1.target r.1.fr r.1.all (.slice A r.1.zU.length c)=X at *;exact xT hf a.tmps _ _ ⟨b,0,none⟩ _ _ hp hq hl
theorem fS {w WE:World}{b:Nat}{e:Int}{fn:Func}{p q:Tmp}(hf:fn.results = #[.cell p 41,.tmp q])(a:Act)(ha:a.defers=[])(hp:a.tmps.getD p undef=.pointer (some ⟨b,0,none⟩))(hq:a.tmps.getD q undef=.int .i64 e)
    (h:qd WE b 41 pZ) (hb:Below w.heap.size w WE):bodyPost prog fn (qa5 (pa0,e) w) .ret a WE :=
 qi2 (r:=(pa0,e)) (A:=none) (c:=0) hf a ha hp hq (by rw[wN]at h;exact h) (q7v _) (World.ownsRow_nil _ _ _ _) (wb.none _ _) hb
theorem qex(g t:Gd)(A:Option Addr)(cp:Nat)(l:List Ch)(fr:Int)(w:World)(hg:xF g)(ht:xF t)(h:kR w A l)(hl:l.length≤1000)(cU:l.length≤cp)(hA:(A=none∧cp=0)∨∃b o,A=some ⟨b,o,none⟩)(hd:∀c∈l,c.2.length≤1000000)(hfr:kC fr) :
    Calls prog 90 #[gv g,gv t,.slice A l.length cp,.int .i64 fr] w (qa5 (sO g t l fr) w):=by
 have HGB:=QH hg;have HTB:=QH ht;have HD:=QH hd;have HFR:=QH hfr;have b1:=(Below.refl w.heap.size w).alloc (Nat.le_refl _) (.cells #[.int .u64 (g.1:Int),.int .u64 (g.2:Int)] 38);have k1:=qd.new w 38 #[.int .u64 (g.1:Int),.int .u64 (g.2:Int)];obtain⟨W1,hW1⟩:=QE (w.alloc (.cells #[.int .u64 (g.1:Int),.int .u64 (g.2:Int)] 38));rw[hW1]at b1 k1;have b2:=(Below.refl W1.heap.size W1).alloc (Nat.le_refl _) (.cells #[.int .u64 (t.1:Int),.int .u64 (t.2:Int)] 38);have k2:=qd.new W1 38 #[.int .u64 (t.1:Int),.int .u64 (t.2:Int)];obtain⟨W2,hW2⟩:=QE (W1.alloc (.cells #[.int .u64 (t.1:Int),.int .u64 (t.2:Int)] 38));rw[hW2]at b2 k2;have b3:=(Below.refl W2.heap.size W2).alloc (Nat.le_refl _) (.cells pZ 41);have k3:=qd.new W2 41 pZ;obtain⟨W3,hW3⟩:=QE (W2.alloc (.cells pZ 41));rw[hW3]at b3 k3;have zB:=QH (qa (qa b1 b2) b3);have bA:=QH ((k1.below b2).below b3);have uR:=QH (k2.below b3);have HR:=QH k3;have HC:=QH (((h.below b1).below b2).below b3);have gJ:Hid (w.heap.size≤W2.heap.size):=(qa b1 b2).size;obtain⟨g0,hg0⟩:=QE w.heap.size;obtain⟨g1,hg1⟩:=QE W1.heap.size;obtain⟨g2,hg2⟩:=QE W2.heap.size;rw[hg0]at bA;rw[hg1]at uR;rw[hg2]at HR gJ;have qlh:=QH gJ.out;have HAB:Hid (∀W,Calls prog 150 #[gv t,gv g] W (uE (above t g) W)):=fun W=>kr _ _ W;have qpR:Hid (∀W,Below W3.heap.size W3 W→Calls prog 151 #[.slice A l.length cp] W (uE (may l) W)):=fun W hb=>qaz A cp l W (HC.out.below hb) (by omega);have qli:Hid (∀(A':Option Addr) (n c':Nat) W,Below W3.heap.size W3 W→kR W A' ((l.drop n).take 2)→Calls prog 163 #[.slice A' ((l.drop n).take 2).length c'] W (qxE ((l.drop n).take 2) W)):=fun A' n c' W hb hc=>qtk A' c' _ W hc (by rw[qi1];omega) (fun x hx=>HD.out x (List.mem_of_mem_drop (List.mem_of_mem_take hx)));have HPC:Hid (sO g t l fr=if lf g t l fr=true then(pa0,2)else(⟨g,t,fr,l.length,(l.drop fr.toNat).take 2⟩,0)):=rfl;have yI:Hid (above t g=false∨may l=false∨fr<0∨max (l.length:Int) 1≤fr→sO g t l fr=(pa0,2)):=fun hx=>by
  rw[HPC.out,if_pos];unfold lf;simp only[Bool.or_eq_true,Bool.not_eq_true',decide_eq_true_eq];rcases hx with hx|hx|hx|hx <;> simp only[hx,true_or,or_true]
 have lJ:Hid (above t g=true→may l=true→¬ fr<0→¬ max (l.length:Int) 1≤fr→sO g t l fr=(⟨g,t,fr,l.length,(l.drop fr.toNat).take 2⟩,0)):=fun h1 h2 h3 h4=>by
  rw[HPC.out,if_neg];unfold lf;simp only[Bool.or_eq_true,Bool.not_eq_true',decide_eq_true_eq,h1,h2,h3,h4,Bool.true_eq_false,or_false,not_false_eq_true]
 have HLB:Hid (∀n,((l.drop n).take 2).length=min (n+2) l.length-n):=fun n=>qi1 l n;have q2M:Hid (∀n,∀x∈(l.drop n).take 2,kC x.1):=fun n x hx=>qtl h x (List.mem_of_mem_drop (List.mem_of_mem_take hx));have HDR:Hid (∀W,Below W3.heap.size W3 W→∀b o,A=some ⟨b,o,none⟩→∀k n,kR W (some ⟨b,o+k*2,none⟩) ((l.drop k).take n)):=fun W hb b o e k n=>by
  have:=HC.out.below hb;rw[e]at this;exact qpP this k n
 obtain⟨P,hP⟩:=QE (sO g t l fr);rw[hP]at yI lJ ⊢;obtain⟨R,hR⟩:=QE (above t g);rw[hR]at HAB yI lJ;obtain⟨M,hM⟩:=QE (may l);rw[hM]at qpR yI lJ;obtain⟨n,hn⟩:=QE l.length;have HN:=QH hn;rw[hn]at hl cU qpR yI lJ HLB ⊢;clear b1 b2 b3 k1 k2 k3 h hg ht hd hP hR hM hn HPC HC hfr;have p0:=bA.out.cell 0;have p1:=bA.out.cell 1;have q0:=uR.out.cell 0;have q1:=uR.out.cell 1;have hl1:=bA.out.lt;have hl2:=uR.out.lt;simp only[QA,QB,QC]at p0 p1 q0 q1;unfold gv at HAB;show Calls prog 90 #[.agg #[.int .u64 (g.1:Int),.int .u64 (g.2:Int)],.agg #[.int .u64 (t.1:Int),.int .u64 (t.2:Int)],.slice A n cp,.int .i64 fr] w _;unfold pZ at hW3;go_enter func90,ntmps90;go_upto_region 1 with fail;try rw[hW3]
 try rw[hg0]
 try rw[hg1]
 try rw[hg2]
 clear hW1 hW2 hW3 hg0 hg1 hg2;go_wp2_with fail;refine(HAB.out W3).mono ?_;rintro e W4 ⟨rfl,c4⟩;have zT:=QH (qa zB.out c4);have mQ:=QH c4;have hr:=HR.out.below c4;have n4:=QH hr;clear c4 p0 p1 q0 q1 hl1 hl2 HAB;cases R with
 | false =>
  obtain rfl:P=(pa0,2):=yI.out (.inl rfl);clear yI lJ qpR qli;have hr:=n4.out;have a0:=hr.cell 0;have a1:=hr.cell 1;have a2:=hr.cell 2;have a3:=hr.cell 3;have a4:=hr.cell 4;have a5:=hr.cell 5;have a6:=hr.cell 6;have f0:=hr.frozen 0;have f1:=hr.frozen 1;have f2:=hr.frozen 2;have f3:=hr.frozen 3;have f4:=hr.frozen 4;have f5:=hr.frozen 5;have f6:=hr.frozen 6;have hrl:=hr.lt;simp only[pZ,QA,QB,QC]at a0 a1 a2 a3 a4 a5 a6;clear hr;go_wp2_with fail;show bodyPost _ _ _ _ _ (yT W4 g2 (0,0) (0,0) 0 0 bV);exact fS (b:=g2) results90 _ rfl (by simp) (by simp) (by rw[wN];exact jI (by rw[← wN];exact n4.out)) (yg zT.out qlh.out)
 | true =>
  go_wp2_with fail;refine(qpR.out W4 mQ.out).mono ?_;rintro e W5 ⟨rfl,c5⟩;have jJ:=QH (qa zT.out c5);have mA:=QH (qa mQ.out c5);have uZ:=QH (n4.out.below c5);clear c5 hr qpR n4 zT mQ;cases M with
  | false =>
   obtain rfl:P=(pa0,2):=yI.out (.inr (.inl rfl));clear yI lJ qli;have hr:=uZ.out;have a0:=hr.cell 0;have a1:=hr.cell 1;have a2:=hr.cell 2;have a3:=hr.cell 3;have a4:=hr.cell 4;have a5:=hr.cell 5;have a6:=hr.cell 6;have f0:=hr.frozen 0;have f1:=hr.frozen 1;have f2:=hr.frozen 2;have f3:=hr.frozen 3;have f4:=hr.frozen 4;have f5:=hr.frozen 5;have f6:=hr.frozen 6;have hrl:=hr.lt;simp only[pZ,QA,QB,QC]at a0 a1 a2 a3 a4 a5 a6;clear hr;go_wp2_with fail;show bodyPost _ _ _ _ _ (yT W5 g2 (0,0) (0,0) 0 0 bV);exact fS (b:=g2) results90 _ rfl (by simp) (by simp) (by rw[wN];exact jI (by rw[← wN];exact uZ.out)) (yg jJ.out qlh.out)
  | true =>
   by_cases h1:fr<0
   ·obtain rfl:P=(pa0,2):=yI.out (.inr (.inr (.inl h1)));clear yI lJ qli;have hr:=uZ.out;have a0:=hr.cell 0;have a1:=hr.cell 1;have a2:=hr.cell 2;have a3:=hr.cell 3;have a4:=hr.cell 4;have a5:=hr.cell 5;have a6:=hr.cell 6;have f0:=hr.frozen 0;have f1:=hr.frozen 1;have f2:=hr.frozen 2;have f3:=hr.frozen 3;have f4:=hr.frozen 4;have f5:=hr.frozen 5;have f6:=hr.frozen 6;have hrl:=hr.lt;simp only[pZ,QA,QB,QC]at a0 a1 a2 a3 a4 a5 a6;clear hr;go_wp2_with fail;show bodyPost _ _ _ _ _ (yT W5 g2 (0,0) (0,0) 0 0 bV);exact fS (b:=g2) results90 _ rfl (by simp) (by simp) (by rw[wN];exact jI (by rw[← wN];exact uZ.out)) (yg jJ.out qlh.out)
   obtain⟨mx,hmx⟩:=QE (max (n:Int) 1);have q7I:(if (n:Int)<1 then(1:Int)else(n:Int))=mx:=by rw[← hmx];omega
   have q7J:(if (1:Int)<(n:Int)then(n:Int)else(1:Int))=mx:=by rw[← hmx];omega
   have HMX:=QH hmx;rw[hmx]at yI lJ;by_cases h2:mx≤fr
   ·obtain rfl:P=(pa0,2):=yI.out (.inr (.inr (.inr h2)));clear yI lJ qli;have hr:=uZ.out;have a0:=hr.cell 0;have a1:=hr.cell 1;have a2:=hr.cell 2;have a3:=hr.cell 3;have a4:=hr.cell 4;have a5:=hr.cell 5;have a6:=hr.cell 6;have f0:=hr.frozen 0;have f1:=hr.frozen 1;have f2:=hr.frozen 2;have f3:=hr.frozen 3;have f4:=hr.frozen 4;have f5:=hr.frozen 5;have f6:=hr.frozen 6;have hrl:=hr.lt;simp only[pZ,QA,QB,QC]at a0 a1 a2 a3 a4 a5 a6;clear hr;go_wp2_with fail;show bodyPost _ _ _ _ _ (yT W5 g2 (0,0) (0,0) 0 0 bV);exact fS (b:=g2) results90 _ rfl (by simp) (by simp) (by rw[wN];exact jI (by rw[← wN];exact uZ.out)) (yg jJ.out qlh.out)
   have HP:=QH (lJ.out (by first|rfl|trivial) (by first|rfl|trivial) (by omega) (by omega));obtain⟨k,hk⟩:∃k:Nat,fr=(k:Int):=⟨fr.toNat,by omega⟩;subst hk;rw[Int.toNat_natCast]at HP;have hkn:k≤n∧k≤1000:=by omega
   have p0:=(bA.out.below mA.out).cell 0;have p1:=(bA.out.below mA.out).cell 1;have q0:=(uR.out.below mA.out).cell 0;have q1:=(uR.out.below mA.out).cell 1;have hl1:=(bA.out.below mA.out).lt;have hl2:=(uR.out.below mA.out).lt;simp only[QA,QB,QC]at p0 p1 q0 q1;obtain⟨W6,hW6⟩:=QE (W5.alloc (.cells (pC g t (k:Int) (n:Int) bV) 41));have c6:Below W5.heap.size W5 W6:=by rw[← hW6];exact(Below.refl _ _).alloc (Nat.le_refl _) _
   have hM:qd W6 W5.heap.size 41 (pC g t (k:Int) (n:Int) bV):=by rw[← hW6];exact qd.new _ _ _
   have dQ:=QH (qa jJ.out c6);have HS6:=QH (qa mA.out c6);have HR6:=QH (uZ.out.below c6);have HMG:Hid (g2<W5.heap.size):=uZ.out.lt;clear c6 uZ jJ mA yI lJ;have zeU:¬ mx≤(k:Int):=h2;unfold pC bV at hW6;have HW6:=QH hW6;clear hW6;go_upto_region 9 with fail;try rw[HW6.out]
   obtain⟨gm,hgm⟩:=QE W5.heap.size;rw[hgm]at hM HMG;have HM6:=QH hM;try rw[hgm]
   clear HW6 hM hgm p0 p1 q0 q1 hl1 hl2 hmx q7I q7J;obtain⟨m,hm⟩:=QE (min (k+2) n);have hmi:min ((k:Int)+2) (n:Int)=(m:Int):=by omega
   have q7L:(if (n:Int)<(k:Int)+2 then(n:Int)else(k:Int)+2)=(m:Int):=by omega
   have q7M:(if (k:Int)+2<(n:Int)then(k:Int)+2 else(n:Int))=(m:Int):=by omega
   have HLK:Hid (((l.drop k).take 2).length=m-k):=by unfold Hid;rw[HLB.out,hm]
   have hkm:k≤m∧m≤cp:=by omega
   have dx:∃A',(∀W,(Instr.sliceAt 39 (.slice A n cp) (some (.int .i64 (k:Int))) (some (.int .i64 (m:Int))) none).run prog W=.ok (.slice A' (m-k) (cp-k)) W)∧(∀W,Below W3.heap.size W3 W→kR W A' ((l.drop k).take 2)):=by
    have hu:=underlying39;have he:prog.elem 39=122:=by kernel_rfl
    rcases hA with⟨rfl,hc0⟩|⟨b,o,rfl⟩
    ·refine⟨none,fun W=>?_,fun W hb=>?_⟩
     ·have hs:(sizeOf 122).run prog W=.ok 2 W:=by simp[go_sem,sizeOf122]
      rw[run_sliceAt_slice W _ _ _ _ _ (by rw[he];exact hu),run_slice_lh W _ _ _ _ (by rw[he];exact hu) _ _ _ _ (by omega) (by omega) (by omega),he,hs];have e1:((k:Int)).toNat=k:=Int.toNat_natCast k;have e2:((m:Int)).toNat=m:=Int.toNat_natCast m;simp only[Result.andThen,sliced,e1,e2];simp
     ·have hz:(l.drop k).take 2=[]:=List.length_eq_zero_iff.1 (by rw[HLK.out];omega);rw[hz];exact kR.nil _ _
    ·refine⟨some ⟨b,o+k*2,none⟩,fun W=>?_,fun W hb=>HDR.out W hb b o rfl k 2⟩;have hs:(sizeOf 122).run prog W=.ok 2 W:=by simp[go_sem,sizeOf122]
     rw[run_sliceAt_slice W _ _ _ _ _ (by rw[he];exact hu),run_slice_lh W _ _ _ _ (by rw[he];exact hu) _ _ _ _ (by omega) (by omega) (by omega),he,hs];have e1:((k:Int)).toNat=k:=Int.toNat_natCast k;have e2:((m:Int)).toNat=m:=Int.toNat_natCast m;simp only[Result.andThen,sliced,e1,e2];by_cases hkc:cp=k
     ·obtain rfl:k=0:=by have:=HMX.out;omega
      simp[hkc,Addr.add]
     ·rw[if_neg hkc];simp[Addr.add]
   obtain⟨A',hs1,hs2⟩:=dx;have kT:=QH hs2;have ij:Hid (P=(⟨g,t,(k:Int),(n:Int),(l.drop k).take 2⟩,0)):=HP.out;obtain⟨L2,hL2⟩:=QE ((l.drop k).take 2);have q2N:Hid (∀c' W,Below W3.heap.size W3 W→kR W A' L2→Calls prog 163 #[.slice A' (m-k) c'] W (qxE L2 W)):=fun c' W hb hc=>by
    have:=qli.out A' k c' W hb (by rw[hL2];exact hc);rw[HLK.out,hL2]at this;exact this
   have q2O:Hid (∀x∈L2,kC x.1):=by rw[← hL2];exact q2M.out k
   have zeV:Hid (L2.length=m-k):=by rw[← hL2];exact HLK.out
   rw[hL2]at kT ij;clear hs2 hL2 qli HLK q2M HDR HP;go_wp2_with fail;refine(q2N.out _ W6 HS6.out (kT.out W6 HS6.out)).mono ?_;rintro e W7 ⟨v,rfl,ho,c7⟩;obtain⟨A7,c77,rfl,hc7,hn7⟩:=qpQ ho q2O.out;have HB7:=QH (qa dQ.out c7);have HR7:=QH (HR6.out.below c7);have hM7:=HM6.out.below c7;have HM7:=QH hM7;have HC7:=QH hc7;have HN7:=QH hn7;have HZ7:Hid (W6.heap.size≤W7.heap.size∧gm<W6.heap.size∧g2<W6.heap.size):=⟨c7.size,HM6.out.lt,HR6.out.lt⟩;have m6:=hM7.cell 6;have f6:=hM7.frozen 6;have hml:=hM7.lt;simp only[pC,QA,QB,QC]at m6;obtain⟨W8,rL⟩:=QE (W7.setCell ⟨gm,6,none⟩ (.slice A7 L2.length c77));have hM8:qd W8 gm 41 (pC g t (k:Int) (n:Int) (.slice A7 L2.length c77)):=by
    rw[← rL];have:=HM7.out.qo 6 (.slice A7 L2.length c77);simp only[pC,List.setIfInBounds_toArray,List.set_cons_succ,List.set_cons_zero]at this;exact this
   have hR8:qd W8 g2 41 pZ:=by
    rw[← rL];exact HR7.out.of_block (qy _ _ _ _ _ (by have:=HMG.out;omega))
   have hB8:Below w.heap.size w W8:=by
    rw[← rL];exact HB7.out.setCell (show w.heap.size≤gm by have:=qlh.out;have:=HMG.out;omega) _
   have hC8:kR W8 A7 L2:=by
    intro i hi;obtain⟨b,o,e1,e2,e3,e4,e5⟩:=HC7.out i hi;have hne:b≠gm:=by
     have:=(HN7.out b o e1).1;have:=HZ7.out.2.1;omega
    have hblk:W8.heap[b]?=W7.heap[b]? :=by rw[← rL];exact qy _ _ _ _ _ hne
    exact⟨b,o,e1,by rw[← rL,World.size_setCell];exact e2,by rw[World.cell?_of_block (a:=⟨b,o+i*2,none⟩) hblk];exact e3,by rw[World.cell?_of_block (a:=⟨b,o+i*2+1,none⟩) hblk];exact e4,e5⟩
   have HM8:=QH hM8;have HR8:=QH hR8;have HB8:=QH hB8;have HC8:=QH hC8;have HN8:Hid (∀b o,A7=some ⟨b,o,none⟩→w.heap.size≤b∧b<W8.heap.size∧b≠g2):=fun b o e=>by
    have h1:=HN7.out b o e;have h2:=HZ7.out;have h3:=dQ.out.size;refine⟨by omega,by rw[← rL,World.size_setCell];exact h1.2,by omega⟩
   have HO8:Hid (xL W8 w.heap.size (.slice A7 L2.length c77) L2):=by
    unfold Hid;rw[← rL];exact zf (nE ho dQ.out.size) (fun j hj=>qy _ _ _ _ _ (ey ho HM7.out (by decide) j hj))
   have HW8:=QH rL;clear hM8 hR8 hB8 hC8 c7 hc7 hn7 ho hM7 rL hs1 hmi q7L q7M q2N kT;have r:=HR8.out;have a0:=r.cell 0;have e0:=r.frozen 0;have a1:=r.cell 1;have e1:=r.frozen 1;have a2:=r.cell 2;have e2:=r.frozen 2;have a3:=r.cell 3;have e3:=r.frozen 3;have a4:=r.cell 4;have e4:=r.frozen 4;have a5:=r.cell 5;have e5:=r.frozen 5;have a6:=r.cell 6;have e6:=r.frozen 6;have hrl:=r.lt;simp only[pZ,QA,QB,QC]at a0 a1 a2 a3 a4 a5 a6;go_upto_region 10 with fail;try rw[HW8.out]
   clear m6 f6 hml HW8 r;have hm8:=HM8.out;have m0:=hm8.cell 0;have m1:=hm8.cell 1;have m2:=hm8.cell 2;have m3:=hm8.cell 3;have m4:=hm8.cell 4;have m5:=hm8.cell 5;have m6:=hm8.cell 6;have hml:=hm8.lt;simp only[pC,QA,QB,QC]at m0 m1 m2 m3 m4 m5 m6;clear hm8;go_wp2_with fail;show bodyPost _ _ _ _ _ (yT W8 g2 g t (k:Int) (n:Int) (.slice A7 L2.length c77));have HF:Hid (cV (yT W8 g2 g t (k:Int) (n:Int) (.slice A7 L2.length c77)) A7 c77 ⟨g,t,(k:Int),(n:Int),L2⟩):=by
    refine⟨fun i hi=>?_,HGB.out,HTB.out,HFR.out,by unfold kC;dsimp only;omega⟩;obtain⟨b,o,e1,e2,e3,e4,e5⟩:=HC8.out i hi;have hblk:=bp W8 g2 g t (k:Int) (n:Int) (.slice A7 L2.length c77) b (HN8.out b o e1).2.2;exact⟨b,o,e1,by rw[uX];exact e2,by rw[World.cell?_of_block (a:=⟨b,o+i*2,none⟩) hblk];exact e3,by rw[World.cell?_of_block (a:=⟨b,o+i*2+1,none⟩) hblk];exact e4,e5⟩
   have hPP:=ij.out;subst hPP;exact qi2 (r:=(⟨g,t,(k:Int),(n:Int),L2⟩,0)) (b:=g2) results90 _ rfl (by simp) (by simp) (jI (by rw[← wN];exact HR8.out)) HF.out (zf HO8.out (fun j hj=>bp _ _ _ _ _ _ _ _ (ey HO8.out HR8.out (by decide) j hj))) (fun b o e=>by have:=HN8.out b o e;rw[uX];omega) (yg HB8.out qlh.out)
theorem mX (g t:Gd)(A:Option Addr)(cp:Nat)(l:List Ch)(fr:Int)(w:World)(hg:xF g)(ht:xF t)(h:kR w A l)(hl:l.length≤1000)(cU:l.length≤cp)(hA:(A=none∧cp=0)∨∃b o,A=some ⟨b,o,none⟩)(hd:∀c∈l,c.2.length≤1000000)(hfr:kC fr) :
    Calls prog 90 #[gv g,gv t,.slice A l.length cp,.int .i64 fr] w (qiD (sO g t l fr) w) :=
 (qex g t A cp l fr w hg ht h hl cU hA hd hfr).mono fun _ _=>qa5.less
end Go.Proofs.YtdpbdkacngaemaaGreatDoor.st
namespace Go.Proofs.YtdpbdkacngaemaaGreatDoor.wi
open _root_.Go.Proofs.Tryz Go.RowKit
end Go.Proofs.YtdpbdkacngaemaaGreatDoor.wi
namespace Go.Proofs.YtdpbdkacngaemaaGreatDoor
open _root_.Go.Proofs.Tryz Go.RowKit
end Go.Proofs.YtdpbdkacngaemaaGreatDoor
namespace Go.Proofs.YtdpbdkacngaemaaGreatDoor.st
open _root_.Go.Proofs.Tryz Go Go.RowKit Go.Sort ib wi mt
open ch (kR xL xq jU)
theorem vU:prog.follows .mixedOrders=true:=by kernel_rfl
end Go.Proofs.YtdpbdkacngaemaaGreatDoor.st
namespace Go.Proofs.YtdpbdkacngaemaaGreatDoor.rv
open _root_.Go.Proofs.Tryz Go Go.RowKit Go.Sort ib mt st
open ch (kR)
def CuW (P:Pa)(B:Nat)(w:World)(A:Option Addr)(c:Nat):Prop:=cV w A c P∧ch.xL w B (.slice A P.zU.length c) P.zU
theorem CuW.below{P:Pa}{B:Nat}{w w':World}{A:Option Addr}{c:Nat}(h:CuW P B w A c)(hb:Below w.heap.size w w'):CuW P B w' A c :=
 ⟨h.1.below hb,zf h.2 (fun j hj=>hb.block j (h.2.lt j hj).2)⟩
def NtG (P:Pa)(B b5 o5 M c5 k n c6 j:Nat)(L T:Gd)(A6:Option Addr):Nat→Value→World→Prop
 | 0,v,_=>v=gv L
 | 1,v,_=>v=.slice (some ⟨b5,o5,none⟩) M c5
 | 2,v,_=>v=.int .i64 (k:Int)
 | 3,v,_=>v=.pointer (some ⟨b5,o5+k*2,none⟩)
 | 4,v,_=>v=gv T
 | 5,v,_=>v=.slice A6 n c6
 | 6,v,_=>v=.int .i64 (j:Int)
 | 7,v,w=>∃A c,v=.tuple #[.agg (jL P A c),.int .i64 0]∧CuW P B w A c
 | 8,v,w=>∃A c,v=.tuple #[.agg (jL P A c),.int .i64 0]∧CuW P B w A c
 | 9,v,w=>∃A c,v=.agg (jL P A c)∧CuW P B w A c
 | 11,v,w=>∃g,v=pt g∧qd w g 41 pZ∧B≤g
 | _,_,_=>True
theorem qpS(P:Pa)(B b5 o5 M c5 k n c6 j:Nat)(L T:Gd)(A6:Option Addr)(i:Nat)(v:Value)(w w':World)(h:NtG P B b5 o5 M c5 k n c6 j L T A6 i v w)(hb:Below w.heap.size w w'):NtG P B b5 o5 M c5 k n c6 j L T A6 i v w':=by
 match i,h with
 | 0,h | 1,h | 2,h | 3,h | 4,h | 5,h | 6,h | 10,h=>exact h
 | 7,⟨A,c,h1,h2⟩=>exact⟨A,c,h1,h2.below hb⟩
 | 8,⟨A,c,h1,h2⟩=>exact⟨A,c,h1,h2.below hb⟩
 | 9,⟨A,c,h1,h2⟩=>exact⟨A,c,h1,h2.below hb⟩
 | 11,⟨g,h1,h2,h3⟩=>exact⟨g,h1,h2.below hb,h3⟩
 | i+12,h=>exact trivial
def NtE (V:World)(P:Pa)(x:Value)(W:World):Prop:=∃g A c W',x=pt g∧Below V.heap.size V W'∧qd W' g 41 pZ∧V.heap.size≤g∧CuW P V.heap.size W' A c∧W=yT W' g P.base P.target P.fr P.all (.slice A P.zU.length c)
structure NtI(V:World)(P:Pa)(b5 o5 M c5 k n c6 j:Nat)(L T:Gd)(A6:Option Addr)(Ls:Nat→Bool)(vs:Nat→Value)(W:World):Prop where
 v8:Ls 8=true→∃X,vs 8=.tuple #[X,.int .i64 0]
 v10:Ls 10=true→vs 10=.int .i64 0
 v13:Ls 13=true→vs 13=.int .i64 0
 c:Ls 12=true→∀i,i<12→i≠10→Ls i=true
 n:Ls 12=false→Below V.heap.size V W∧∀i,i<12→Ls i=true→NtG P V.heap.size b5 o5 M c5 k n c6 j L T A6 i (vs i) W
 y:Ls 12=true→NtE V P (vs 11) W
section
variable {V:World} {P:Pa} {b5 o5 M c5 k n c6 j:Nat} {L T:Gd} {A6:Option Addr} {Ls:Nat→Bool} {vs:Nat→Value} {W W':World}
theorem NtI.val(h:NtI V P b5 o5 M c5 k n c6 j L T A6 Ls vs W){i:Nat}{x:Value}(hi:i<12)(h10:i≠10)(dc:Ls i=false)(hb:Below W.heap.size W W')(hx:NtG P V.heap.size b5 o5 M c5 k n c6 j L T A6 i x W')(h8:i=8→∃X,x=.tuple #[X,.int .i64 0]) :
    NtI V P b5 o5 M c5 k n c6 j L T A6 (qP Ls i) (zE vs i x) W':=by
 have f12:Ls 12=false:=by
  cases hx:Ls 12 with
  | false=>rfl
  | true=>have:=h.c hx i hi h10;rw[dc]at this;cases this
 have e12:qP Ls i 12=false:=by rw[zu (by omega)];exact f12
 obtain⟨hbV,hG⟩:=h.n f12;refine⟨fun hk=>?_,fun hk=>?_,fun hk=>?_,fun hk=>?_,fun _=>⟨qa hbV hb,fun q hq hk=>?_⟩,fun hk=>?_⟩
 ·by_cases h8i:8=i
  ·subst h8i;simpa[zE]using h8 rfl
  ·rw[zu h8i]at hk;simpa[zE,h8i]using h.v8 hk
 ·rw[zu (Ne.symm h10)]at hk;simpa[zE,Ne.symm h10]using h.v10 hk
 ·have h13:(13:Nat)≠i:=by omega
  rw[zu h13]at hk;simpa[zE,h13]using h.v13 hk
 ·rw[e12]at hk;cases hk
 ·by_cases hqi:q=i
  ·subst hqi;simpa[zE]using hx
  ·rw[zu hqi]at hk;simpa[zE,hqi]using qpS _ _ _ _ _ _ _ _ _ _ _ _ _ _ _ _ _ (hG q hq hk) hb
 ·rw[e12]at hk;cases hk
theorem NtI.late(h:NtI V P b5 o5 M c5 k n c6 j L T A6 Ls vs W){i:Nat}{x:Value}(hi:i=10∨i=13)(hx:x=.int .i64 0):NtI V P b5 o5 M c5 k n c6 j L T A6 (qP Ls i) (zE vs i x) W:=by
 have e12:qP Ls i 12=Ls 12:=zu (by omega);have u:∀q,q≠i→zE vs i x q=vs q:=fun q hq=>by simp[zE,hq]
 have up:∀q,Ls q=true→qP Ls i q=true:=fun q hk=>by
  by_cases yr:q=i
  ·subst yr;exact bn _ _
  ·rw[zu yr];exact hk
 refine⟨fun hk=>?_,fun hk=>?_,fun hk=>?_,fun hk=>?_,fun hk=>?_,fun hk=>?_⟩
 ·rw[zu (by omega)]at hk;rw[u 8 (by omega)];exact h.v8 hk
 ·by_cases h10:10=i
  ·subst h10;simpa[zE]using hx
  ·rw[zu h10]at hk;rw[u 10 h10];exact h.v10 hk
 ·by_cases h13:13=i
  ·subst h13;simpa[zE]using hx
  ·rw[zu h13]at hk;rw[u 13 h13];exact h.v13 hk
 ·rw[e12]at hk;exact fun q hq q7N=>up q (h.c hk q hq q7N)
 ·rw[e12]at hk;obtain⟨h1,h2⟩:=h.n hk;refine⟨h1,fun q hq hqk=>?_⟩;by_cases hqi:q=i
  ·have:q=10:=by omega
   subst this;exact trivial
  ·rw[zu hqi]at hqk;rw[u q hqi];exact h2 q hq hqk
 ·rw[e12]at hk;rw[u 11 (by omega)];exact h.y hk
end
def NxP (p:Pa)(w:World)(e:Ending)(w':World):Prop:=∃A c,e=.returned (.tuple #[.agg (jL p A c),.bool true])∧cV w' A c p∧wb w w' A∧Below w.heap.size w w'
theorem qlj{IV:vt.yv}{IC:ch.rS}(H:vt.js IV)(HC:ch.Ops IC)(HCG:∀ {own:Nat→Prop} {w:World} {p:Nat} {d:ch.CH} (k:Int),IC own w p d→kC k→Calls prog 94 #[pt p,.int .i64 k] w (ch.pg.qhd (d.changes k) w)){o1 o3:Nat→Prop}{w:World}{v pd pc M k j:Nat}{m:Mt}{lv:Nat→List Bt}{t:vt.Tg}(hv:vY lv)(hi:IV o1 w v pd m false)(hc:IC o3 w pc (aL lv M))(hr:Rc lv M k j t m)(hk:k<M)(hM:M≤8) :
    Calls prog 35 #[pt v,pt pc] w (NxP (lp lv k j) w):=by
 have hb1:=(Below.refl _ w).alloc (Nat.le_refl _) (.cells pZ 41);have hr1:=qd.new w 41 pZ;obtain⟨W1,hW1⟩:=QE (w.alloc (.cells pZ 41));rw[hW1]at hb1 hr1;obtain⟨g4,hg4⟩:=QE w.heap.size;have gJ:Hid (w.heap.size≤g4):=Nat.le_of_eq hg4;rw[hg4]at hr1;have HI:Hid (∀W,Below w.heap.size w W→IV o1 W v pd m false):=fun W hb=>H.keep hi (fun j hj=>hb.block j (H.low hi j hj)) hb.size;have HCC:Hid (∀W,Below w.heap.size w W→IC o3 W pc (aL lv M)):=fun W hb=>HC.keep hc (fun j hj=>hb.block j (HC.low hc j hj)) hb.size;have jX:(m.qc.map (·.g)).length=k:=by rw[List.length_map,hr.qc]
 have HAS:=QH (rI (gs:=m.qc.map (·.g)) (t:=m.tok) (p:=pt v) (w:=W1) (by omega) (fun W hb=>H.list (HI.out W (qa hb1 hb))) (fun W hb=>H.token (HI.out W (qa hb1 hb))));rw[jX,vH,hr.qI,hr.asks.1]at HAS;have qT:=QH hb1;have uu:=QH hr1;have HTG:=QH hr.asks.2;have dv:=QH (qx5 (hr.cut hv hk));obtain⟨P,hP⟩:=QE (lp lv k j);rw[hP];have HPP:Hid (mI (yq k) (ch.kH k) (df lv k) j=P):=hP;clear hP;have HLB:Hid (xF (yq k)):=by
  unfold Hid;cases k with
  | zero=>exact st.bS
  | succ k=>exact qiw k (by omega)
 have HCH:=QH (qho hv M k hk);have HV:=QH hv;have sg:=QH hW1;have HG4:=QH hg4;have HJ:Hid (j≤6):=hr.j6 hv;unfold pZ at sg;unfold rH at HAS;generalize m.tok.target=T at *;clear hb1 hr1 hW1 hg4 hi hc jX hr;go_enter func35,ntmps35;go_upto_region 1 with fail;try rw[sg.out]
 try rw[HG4.out]
 clear sg HG4;go_wp2_with fail;refine HAS.out.mono ?_;rintro e W2 ⟨rfl,hb⟩;have qC:=QH (qa qT.out hb);have jO:=QH (uu.out.below hb);clear hb HAS qT uu;unfold gv;dsimp only;have cb1:=(Below.refl W2.heap.size W2).alloc (Nat.le_refl _) (.cells (gC (yq k)) 38);have kb1:=qd.new W2 38 (gC (yq k));obtain⟨W3,hW3⟩:=QE (W2.alloc (.cells (gC (yq k)) 38));have hs3:W3.heap.size=W2.heap.size+1:=by rw[← hW3];simp
 rw[hW3]at cb1 kb1;have cb2:=(Below.refl W3.heap.size W3).alloc (Nat.le_refl _) (.cells (gC T) 38);have kb2:=qd.new W3 38 (gC T);obtain⟨W4,ic⟩:=QE (W3.alloc (.cells (gC T) 38));rw[ic]at cb2 kb2;rw[hs3]at kb2;obtain⟨gL,hgL⟩:=QE W2.heap.size;rw[hgL]at kb1 kb2;obtain⟨gT,hgT⟩:=QE (gL+1);rw[hgT]at kb2;have zT:=QH (qa (qa qC.out cb1) cb2);have n4:=QH ((jO.out.below cb1).below cb2);have HL4:=QH (kb1.below cb2);have HT4:=QH kb2;unfold gC at hW3 ic;have HW3:=QH hW3;have HW4:=QH ic;have HgL:=QH hgL;have HgT:=QH hgT;clear cb1 kb1 cb2 kb2 hW3 ic hs3 hgL hgT qC jO;go_upto_region 2 with fail;try rw[HW3.out]
 try rw[HW4.out]
 try rw[HgL.out]
 try rw[HgT.out]
 clear HW3 HW4 HgL HgT;have rN:=QH (HC.list (HCC.out W4 zT.out));go_wp2_with fail;refine rN.out.mono ?_;rintro e W5 ⟨A5,c5,rfl,hgd,-,hb⟩;rw[yS];obtain⟨b5,o5,rfl,qtn,e0,e1,-⟩:=hgd k (by rw[yS];exact hk);rw[rF]at e0 e1;have HE5:Hid (b5<W5.heap.size∧W5.cell? ⟨b5,o5+k*2,none⟩=some (.int .u64 ((ch.kH k).1:Int))∧W5.cell? ⟨b5,o5+k*2+1,none⟩=some (.int .u64 ((ch.kH k).2:Int))):=⟨qtn,e0,e1⟩;have jJ:=QH (qa zT.out hb);have uZ:=QH (n4.out.below hb);have HL5:=QH (HL4.out.below hb);have nO:=QH (HT4.out.below hb);clear hgd qtn e0 e1 hb rN zT n4 HL4 HT4;have hkM:¬ (M:Int)≤(k:Int):=by omega
 have qxH:=QH (HCG (k:Int) (HCC.out W5 jJ.out) (by unfold kC;omega));rw[HCH.out]at qxH;go_wp2_with fail;refine qxH.out.mono ?_;rintro e W6 ⟨A6,c6,rfl,hcl,⟨-,cU⟩,hb⟩;dsimp only at hcl cU ⊢;have HE6:Hid (b5<W6.heap.size∧W6.cell? ⟨b5,o5+k*2,none⟩=some (.int .u64 ((ch.kH k).1:Int))∧W6.cell? ⟨b5,o5+k*2+1,none⟩=some (.int .u64 ((ch.kH k).2:Int))):=by
  obtain⟨h1,h2,h3⟩:=HE5.out;exact⟨Nat.lt_of_lt_of_le h1 hb.size,by rw[hb.cell (p:=⟨b5,o5+k*2,none⟩) h1];exact h2,by rw[hb.cell (p:=⟨b5,o5+k*2+1,none⟩) h1];exact h3⟩
 have dQ:=QH (qa jJ.out hb);have HR6:=QH (uZ.out.below hb);have HL6:=QH (HL5.out.below hb);have iE:=QH (nO.out.below hb);have kK:=QH hcl;have HCP:=QH cU;have HD8:Hid ((df lv k).length≤8):=rG HV.out k;have q2P:Hid (∀c∈df lv k,c.2.length≤1000000):=fun c hc=>by
  have:=(ng (qbT HV.out k) c hc).2.2;omega
 have nM:Hid (xF (ch.kH k)):=qiw k (by omega);clear hcl cU hb qxH jJ uZ HL5 nO HE5 hkM;obtain⟨D,hD⟩:=QE (df lv k);rw[hD]at kK HCP HD8 q2P HPP dv ⊢;clear hD;rw[HPP.out]at dv;obtain⟨G,hG⟩:=QE (ch.kH k);have hG1:(G.1:Int)=1:=by rw[← hG];rfl
 rw[hG]at HTG HE6 nM dv HPP;have HG1:=QH hG1;clear hG hG1;obtain⟨n,hn⟩:=QE D.length;have HN:=QH hn;rw[hn];clear hn;have HCU:=QH (fun W (hb:Below W6.heap.size W6 W)=>qex (yq k) G A6 c6 D (j:Int) W HLB.out nM.out (kK.out.below hb) (by have:=HD8.out;omega) HCP.out.1 HCP.out.2 q2P.out (by have:=HJ.out;unfold kC;omega));rw[dv.out,HN.out]at HCU;generalize yq k=L at *;have cG:∀dd os,Calls prog 40 #[.int .u64 0,.int .u64 0] (grow (redrawn W6 dd) os) fun e w''=>e=.returned (.agg #[.int .u64 0,.int .u64 0])∧∃y:Regrown,w''=grow (redrawn W6 y.d) y.os:=fun dd os=>Calls.regrown_of (xy 0 0 _);obtain⟨h5,e0,e1⟩:=HE6.out;rw[HG1.out]at e0;obtain⟨y,hy⟩:=QE (G.2:Int);rw[hy]at e1;have eY:(y == y)=true:=by simp
 have re0:∀dd os,(grow (redrawn W6 dd) os).cell? ⟨b5,o5+k*2,none⟩=some (.int .u64 1):=fun dd os=>cell_regrown e0 dd os;have re1:∀dd os,(grow (redrawn W6 dd) os).cell? ⟨b5,o5+k*2+1,none⟩=some (.int .u64 y):=fun dd os=>cell_regrown e1 dd os;have hkM:(k:Int)<(M:Int):=by omega
 clear e0 e1 HE6;rcases HTG.out with hT|hT;all_goals
  have t0:=iE.out.cell 0;have t1:=iE.out.cell 1;rw[hT]at t0 t1;simp only[gC,QA,QB,QC]at t0 t1;try rw[HG1.out]at t0
  try rw[hy]at t1
  have rt0:=fun dd os=>cell_regrown t0 dd os;have rt1:=fun dd os=>cell_regrown t1 dd os;clear t0 t1;go_upto_region 6 with fail;refine wp_region_quiet_below vU (by kernel_rfl) ?_;repeat (any_goals (first|go_big_quiet_step (first|(go_at_call 40;exact cG _ _))|quiet_step (first|(go_at_call 40;exact cG _ _))))
  refine wpQuiet_nil ?_;intro _ hw';obtain⟨⟨dq,osq⟩,hw''⟩:=hw';subst hw'';have hb:=below_regrown W6 dq osq;obtain⟨W7,hW7⟩:=QE (grow (redrawn W6 dq) osq);rw[hW7]at hb ⊢;have HB7:=QH (qa dQ.out hb);have HR7:=QH (HR6.out.below hb);have HL7:=QH (HL6.out.below hb);have q7R:=QH hb;have HX7:Hid (b5<W7.heap.size∧W7.cell? ⟨b5,o5+k*2,none⟩=some (.int .u64 1)∧W7.cell? ⟨b5,o5+k*2+1,none⟩=some (.int .u64 y)):=by
   refine⟨Nat.lt_of_lt_of_le h5 hb.size,?_,?_⟩
   ·rw[← hW7];exact re0 dq osq
   ·rw[← hW7];exact re1 dq osq
  clear rt0 rt1 re0 re1 cG hW7 hb;go_upto_region 8 with fail;refine aI (by kernel_rfl) [51,52,53,54,55,56,57,58,50,59,60,13,64,12] (by kernel_rfl) (fun Ls vs W=>NtI W7 P b5 o5 M c5 k n c6 j L G A6 Ls vs W) ⟨fun h=>(by cases h),fun h=>(by cases h),fun h=>(by cases h),fun h=>(by cases h),fun _=>⟨(Below.refl _ _).drew,fun i _ h=>(by cases h)⟩,fun h=>(by cases h)⟩ ?_ ?_ ?_
  ·intro i o Ls vs ρ W ho dc qw hρ hgd hI;have q7S:i<14:=(Array.getElem?_eq_some_iff.1 ho).1;have hc:=hρ.const;have hfn:=hρ.fn;have u6:ρ (.tmp 6)=.int .i64 (k:Int):=hρ.out 6 rfl;have u7:ρ (.tmp 7)=pt gL:=hρ.out 7 rfl;have u9:ρ (.tmp 9)=.int .i64 (j:Int):=hρ.out 9 rfl;have u10:ρ (.tmp 10)=.slice (some ⟨b5,o5,none⟩) M c5:=hρ.out 10 rfl;have u11:ρ (.tmp 11)=.slice A6 n c6:=hρ.out 11 rfl;have f12:i<12→i≠10→Ls 12=false:=fun h1 h2=>by
    cases hx:Ls 12 with
    | false=>rfl
    | true=>have:=hI.c hx i h1 h2;rw[dc]at this;cases this
   have word:∀q,i<12→i≠10→q<12→Ls q=true→NtG P W7.heap.size b5 o5 M c5 k n c6 j L G A6 q (vs q) W:=fun q h1 h2 h3 h4=>(hI.n (f12 h1 h2)).2 q h3 h4;have next:∀(x:Value) (W':World),i<12→i≠10→Below W.heap.size W W'→NtG P W7.heap.size b5 o5 M c5 k n c6 j L G A6 i x W'→(i=8→∃X,x=.tuple #[X,.int .i64 0])→NtI W7 P b5 o5 M c5 k n c6 j L G A6 (qP Ls i) (zE vs i x) W':=fun x W' h1 h2 h3 h4 h5=>hI.val h1 h2 dc h3 h4 h5;rcases i with _|_|_|_|_|_|_|_|_|_|_|_|_|_|i;all_goals (first|omega|skip)
   all_goals simp only[QA,QB,QC,Option.some.injEq]at ho
   all_goals subst ho
   ·have uK:=(hI.n (f12 (by omega) (by omega))).1;have hl:=HL7.out.below uK;have q0:=hl.cell 0;have q1:=hl.cell 1;have ql:=hl.lt;simp only[gC,QA,QB,QC]at q0 q1;exact qD (v:=gv L) (w':=W) (by unfold execOp gv;simp only[u7];go_simp) (next _ _ (by omega) (by omega) (Below.refl _ _) rfl (fun h=>by omega))
   ·exact qD (w':=W) (by unfold execOp;simp only[u10];go_simp) (next _ _ (by omega) (by omega) (Below.refl _ _) rfl (fun h=>by omega))
   ·exact qD (w':=W) (by unfold execOp;simp only[u6];go_simp) (next _ _ (by omega) (by omega) (Below.refl _ _) rfl (fun h=>by omega))
   ·have s52:ρ (.tmp 52)=.slice (some ⟨b5,o5,none⟩) M c5:=(hρ.at_ 52 1 rfl).trans (word 1 (by omega) (by omega) (by omega) (qw 1 (by kernel_rfl)));have s53:ρ (.tmp 53)=.int .i64 (k:Int):=(hρ.at_ 53 2 rfl).trans (word 2 (by omega) (by omega) (by omega) (qw 2 (by kernel_rfl)));exact qD (w':=W) (by unfold execOp;simp only[s52,s53];go_simp) (next _ _ (by omega) (by omega) (Below.refl _ _) rfl (fun h=>by omega))
   ·have s54:ρ (.tmp 54)=.pointer (some ⟨b5,o5+k*2,none⟩):=(hρ.at_ 54 3 rfl).trans (word 3 (by omega) (by omega) (by omega) (qw 3 (by kernel_rfl)));have uK:=(hI.n (f12 (by omega) (by omega))).1;obtain⟨h1,h2,h3⟩:=HX7.out;have q0:W.cell? ⟨b5,o5+k*2,none⟩=some (.int .u64 1):=by rw[uK.cell (p:=⟨b5,o5+k*2,none⟩) h1];exact h2
    have q1:W.cell? ⟨b5,o5+k*2+1,none⟩=some (.int .u64 y):=by rw[uK.cell (p:=⟨b5,o5+k*2+1,none⟩) h1];exact h3
    have ql:b5<W.heap.size:=Nat.lt_of_lt_of_le h1 uK.size;exact qD (v:=.agg #[.int .u64 1,.int .u64 y]) (w':=W) (by unfold execOp;simp only[s54];go_simp) (next _ _ (by omega) (by omega) (Below.refl _ _) (by show _=gv G;unfold gv;rw[HG1.out,hy]) (fun h=>by omega))
   ·exact qD (w':=W) (by unfold execOp;simp only[u11];go_simp) (next _ _ (by omega) (by omega) (Below.refl _ _) rfl (fun h=>by omega))
   ·exact qD (w':=W) (by unfold execOp;simp only[u9];go_simp) (next _ _ (by omega) (by omega) (Below.refl _ _) rfl (fun h=>by omega))
   ·have s51:ρ (.tmp 51)=gv L:=(hρ.at_ 51 0 rfl).trans (word 0 (by omega) (by omega) (by omega) (qw 0 (by kernel_rfl)));have s55:ρ (.tmp 55)=gv G:=(hρ.at_ 55 4 rfl).trans (word 4 (by omega) (by omega) (by omega) (qw 4 (by kernel_rfl)));have s56:ρ (.tmp 56)=.slice A6 n c6:=(hρ.at_ 56 5 rfl).trans (word 5 (by omega) (by omega) (by omega) (qw 5 (by kernel_rfl)));have s57:ρ (.tmp 57)=.int .i64 (j:Int):=(hρ.at_ 57 6 rfl).trans (word 6 (by omega) (by omega) (by omega) (qw 6 (by kernel_rfl)));have uK:=(hI.n (f12 (by omega) (by omega))).1;refine vZ (f:=90) (args:=#[gv L,gv G,.slice A6 n c6,.int .i64 (j:Int)]) (w':=W) (by unfold execOp;simp only[hfn,s51,s55,s56,s57];go_simp) ((HCU.out W (qa q7R.out uK)).mono ?_);rintro e W' ⟨A,c,rfl,hp,hoc,_,hb5⟩;refine⟨_,rfl,next _ _ (by omega) (by omega) hb5 ⟨A,c,rfl,hp,?_⟩ (fun h=>by omega)⟩;exact nE hoc uK.size
   ·obtain⟨A,c,g7,hcw⟩:=word 7 (by omega) (by omega) (by omega) (qw 7 (by kernel_rfl));have s58:ρ (.tmp 58)=.tuple #[.agg (jL P A c),.int .i64 0]:=(hρ.at_ 58 7 rfl).trans g7;exact qD (w':=W) (by unfold execOp;simp only[s58];go_simp) (next _ _ (by omega) (by omega) (Below.refl _ _) ⟨A,c,rfl,hcw⟩ (fun _=>⟨_,rfl⟩))
   ·obtain⟨A,c,g8,hcw⟩:=word 8 (by omega) (by omega) (by omega) (qw 8 (by kernel_rfl));have s50:ρ (.tmp 50)=.tuple #[.agg (jL P A c),.int .i64 0]:=(hρ.at_ 50 8 rfl).trans g8;exact qD (w':=W) (by unfold execOp;simp only[s50];go_simp) (next _ _ (by omega) (by omega) (Below.refl _ _) ⟨A,c,rfl,hcw⟩ (fun h=>by omega))
   ·obtain⟨X,g8⟩:=hI.v8 (qw 8 (by kernel_rfl));have s50:ρ (.tmp 50)=.tuple #[X,.int .i64 0]:=(hρ.at_ 50 8 rfl).trans g8;exact qD (w':=W) (by unfold execOp;simp only[s50];go_simp) (hI.late (.inl rfl) rfl)
   ·have uK:=(hI.n (f12 (by omega) (by omega))).1;exact qD (v:=pt W.heap.size) (w':=W.alloc (.cells pZ 41)) (by unfold execOp pZ;go_simp) (next _ _ (by omega) (by omega) ((Below.refl _ _).alloc (Nat.le_refl _) _) ⟨W.heap.size,rfl,qd.new _ _ _,uK.size⟩ (fun h=>by omega))
   ·obtain⟨uK,hG⟩:=hI.n dc;obtain⟨A,c,g9,hcw⟩:=hG 9 (by omega) (qw 9 (by kernel_rfl));obtain⟨g,g11,zy,hge⟩:=hG 11 (by omega) (qw 11 (by kernel_rfl));have s59:ρ (.tmp 59)=.agg (jL P A c):=(hρ.at_ 59 9 rfl).trans g9;have tv:ρ (.tmp 13)=pt g:=(hρ.at_ 13 11 rfl).trans g11;have r0:=zy.cell 0;have r1:=zy.cell 1;have r2:=zy.cell 2;have r3:=zy.cell 3;have r4:=zy.cell 4;have r5:=zy.cell 5;have r6:=zy.cell 6;have z0:=zy.frozen 0;have z1:=zy.frozen 1;have z2:=zy.frozen 2;have z3:=zy.frozen 3;have z4:=zy.frozen 4;have z5:=zy.frozen 5;have z6:=zy.frozen 6;have rl:=zy.lt;simp only[pZ,QA,QB,QC]at r0 r1 r2 r3 r4 r5 r6;have quJ:∀q,q<12→q≠10→Ls q=true:=fun q h1 h2=>by
     rcases q with _|_|_|_|_|_|_|_|_|_|_|_|q;all_goals (first|omega|exact qw _ (by kernel_rfl))
    have e12:qP Ls 12 12=true:=bn _ _;have un:∀q,q≠12→zE vs 12 undef q=vs q:=fun q hq=>by simp[zE,hq]
    refine gH (w':=yT W g P.base P.target P.fr P.all (.slice A P.zU.length c)) (by unfold execOp yT;unfold jL at s59;simp only[tv,s59];go_simp) ⟨fun hk=>?_,fun hk=>?_,fun hk=>?_,fun _ q h1 h2=>?_,fun hk=>?_,fun _=>?_⟩
    ·rw[un 8 (by decide)];exact hI.v8 (quJ 8 (by decide) (by decide))
    ·rw[zu (by decide)]at hk;rw[un 10 (by decide)];exact hI.v10 hk
    ·rw[zu (by decide)]at hk;rw[un 13 (by decide)];exact hI.v13 hk
    ·rw[zu (by omega)];exact quJ q h1 h2
    ·rw[e12]at hk;cases hk
    ·rw[un 11 (by decide)];exact⟨g,A,c,W,g11,uK,zy,hge,hcw,rfl⟩
   ·have s60:ρ (.tmp 60)=.int .i64 0:=(hρ.at_ 60 10 rfl).trans (hI.v10 (qw 10 (by kernel_rfl)));exact qD (w':=W) (by unfold execOp;simp only[s60];go_simp) (hI.late (.inr rfl) rfl)
  ·intro i o L1 vs W q want ho dc qw hgd;exfalso;have q7S:i<14:=(Array.getElem?_eq_some_iff.1 ho).1;rcases i with _|_|_|_|_|_|_|_|_|_|_|_|_|_|i;all_goals (first|omega|skip)
   all_goals simp only[QA,QB,QC,Option.some.injEq]at ho
   all_goals subst ho
   all_goals simp only[reduceCtorEq]at hgd
  intro vs WE hI;obtain⟨g,A,c,W8,g11,hb8,zy,hge,hcw,mR⟩:=hI.y (by kernel_rfl);have g13:vs 13=.int .i64 0:=hI.v13 (by kernel_rfl);have q2Q:=ey hcw.2 zy (by decide);have hAg:∀b' o,A=some ⟨b',o,none⟩→b'≠g:=fun b' o e=>q2Q b' (by rw[e];rfl);have hpa:cV WE A c P:=by rw[mR];exact qi0 hcw.1 hAg
  have hbg:qd WE g 41 (pC P.base P.target P.fr P.all (.slice A P.zU.length c)):=by
   rw[mR];rw[wN]at zy;exact jI zy
  have hbe:Below w.heap.size w WE:=by
   rw[mR];exact yg (qa HB7.out hb8) (Nat.le_trans HB7.out.size hge)
  have hg4:qd WE g4 41 pZ:=(HR7.out.below hb8).of_block (by
   rw[mR];exact bp _ _ _ _ _ _ _ _ (by have:=HR7.out.lt;omega))
  have hA4:∀b' o,A=some ⟨b',o,none⟩→b'≠g4:=fun b' o e=>by
   have h1:=(hcw.2.lt b' (by rw[e];rfl)).1;have h2:=HR7.out.lt;omega
  have hnw:∀b' o,A=some ⟨b',o,none⟩→w.heap.size≤b'∧b'<WE.heap.size:=fun b' o e=>by
   have h1:=hcw.2.lt b' (by rw[e];rfl);have h2:=HB7.out.size;rw[mR,uX];omega
  have HPA:=QH (qi0 (b:=g4) (g:=P.base) (t:=P.target) (fr:=P.fr) (all:=P.all) (v:=.slice A P.zU.length c) hpa hA4);have HLD:Hid ((loadVar 41 ⟨g4,0,none⟩).run prog (yT WE g4 P.base P.target P.fr P.all (.slice A P.zU.length c))=.ok (.agg (jL P A c)) (yT WE g4 P.base P.target P.fr P.all (.slice A P.zU.length c))):=by
   rw[wN]at hg4;exact qbY (jI hg4)
  have bH:=QH (yg (b:=g4) (g:=P.base) (t:=P.target) (fr:=P.fr) (all:=P.all) (v:=.slice A P.zU.length c) hbe gJ.out);have au:Hid (wb w (yT WE g4 P.base P.target P.fr P.all (.slice A P.zU.length c)) A):=fun b' o e=>by rw[uX];exact hnw b' o e
  have a0:=hbg.cell 0;have a1:=hbg.cell 1;have a2:=hbg.cell 2;have a3:=hbg.cell 3;have a4:=hbg.cell 4;have a5:=hbg.cell 5;have a6:=hbg.cell 6;have al:=hbg.lt;have r0:=hg4.cell 0;have r1:=hg4.cell 1;have r2:=hg4.cell 2;have r3:=hg4.cell 3;have r4:=hg4.cell 4;have r5:=hg4.cell 5;have r6:=hg4.cell 6;have z0:=hg4.frozen 0;have z1:=hg4.frozen 1;have z2:=hg4.frozen 2;have z3:=hg4.frozen 3;have z4:=hg4.frozen 4;have z5:=hg4.frozen 5;have z6:=hg4.frozen 6;have rl:=hg4.lt;simp only[pC,pZ,QA,QB,QC]at a0 a1 a2 a3 a4 a5 a6 r0 r1 r2 r3 r4 r5 r6;clear hI q2Q hAg hpa hbg hbe hg4 hA4 hnw zy hcw mR hb8 hge;simp only[qX,qK,if_true];rw[g11,g13];generalize vs 0=y0;generalize vs 1=y1;generalize vs 2=y2;generalize vs 3=y3;generalize vs 4=y4;generalize vs 5=y5;generalize vs 6=y6;generalize vs 7=y7;generalize vs 8=y8;generalize vs 9=y9;generalize vs 10=y10;generalize vs 12=y12;clear g11 g13;simp only[Act.put,List.setIfInBounds_toArray,List.set_cons_succ,List.set_cons_zero,List.set_nil];go_wp2_with fail;show bodyPost _ _ _ _ _ (yT WE g4 P.base P.target P.fr P.all (.slice A P.zU.length c));exact bodyPost_ret (v:=.tuple #[.agg (jL P A c),.bool true]) (xT rfl _ _ _ ⟨g4,0,none⟩ _ _ rfl rfl HLD.out) rfl ⟨A,c,rfl,HPA.out,au.out,bH.out⟩
end Go.Proofs.YtdpbdkacngaemaaGreatDoor.rv
namespace Go.Proofs.YtdpbdkacngaemaaGreatDoor.rv
open _root_.Go.Proofs.Tryz Go Go.RowKit Go.Sort ib mt st
open ch (kR)
def NxN (w:World)(e:Ending)(w':World):Prop:=e=.returned (.tuple #[.agg pZ,.bool false])∧Below w.heap.size w w'
theorem qlm{IV:vt.yv}{IC:ch.rS}(H:vt.js IV)(HC:ch.Ops IC){o1 o3:Nat→Prop}{w:World}{v pd pc M k j:Nat}{m:Mt}{lv:Nat→List Bt}{t:vt.Tg}(hi:IV o1 w v pd m false)(hc:IC o3 w pc (aL lv M))(hr:Rc lv M k j t m)(hk:¬ k<M)(hM:M≤8) :
    Calls prog 35 #[pt v,pt pc] w (NxN w):=by
 have hb1:=(Below.refl _ w).alloc (Nat.le_refl _) (.cells pZ 41);have hr1:=qd.new w 41 pZ;obtain⟨W1,hW1⟩:=QE (w.alloc (.cells pZ 41));rw[hW1]at hb1 hr1;obtain⟨g4,hg4⟩:=QE w.heap.size;have gJ:Hid (w.heap.size≤g4):=Nat.le_of_eq hg4;rw[hg4]at hr1;have HI:Hid (∀W,Below w.heap.size w W→IV o1 W v pd m false):=fun W hb=>H.keep hi (fun j hj=>hb.block j (H.low hi j hj)) hb.size;have HCC:Hid (∀W,Below w.heap.size w W→IC o3 W pc (aL lv M)):=fun W hb=>HC.keep hc (fun j hj=>hb.block j (HC.low hc j hj)) hb.size;have hkM:=hr.kM;have jX:(m.qc.map (·.g)).length=k:=by rw[List.length_map,hr.qc]
 have HAS:=QH (rI (gs:=m.qc.map (·.g)) (t:=m.tok) (p:=pt v) (w:=W1) (by omega) (fun W hb=>H.list (HI.out W (qa hb1 hb))) (fun W hb=>H.token (HI.out W (qa hb1 hb))));rw[jX,vH,hr.qI]at HAS;have qT:=QH hb1;have uu:=QH hr1;have sg:=QH hW1;have HG4:=QH hg4;unfold pZ at sg;unfold rH at HAS;generalize m.tok.target=T at *;generalize m.tok.next=nx at *;clear hb1 hr1 hW1 hg4 hi hc jX hr;go_enter func35,ntmps35;go_upto_region 1 with fail;try rw[sg.out]
 try rw[HG4.out]
 clear sg HG4;go_wp2_with fail;refine HAS.out.mono ?_;rintro e W2 ⟨rfl,hb⟩;have qC:=QH (qa qT.out hb);have jO:=QH (uu.out.below hb);clear hb HAS qT uu;unfold gv;dsimp only;have cb1:=(Below.refl W2.heap.size W2).alloc (Nat.le_refl _) (.cells (gC (yq k)) 38);obtain⟨W3,hW3⟩:=QE (W2.alloc (.cells (gC (yq k)) 38));rw[hW3]at cb1;have cb2:=(Below.refl W3.heap.size W3).alloc (Nat.le_refl _) (.cells (gC T) 38);obtain⟨W4,ic⟩:=QE (W3.alloc (.cells (gC T) 38));rw[ic]at cb2;have zT:=QH (qa (qa qC.out cb1) cb2);have n4:=QH ((jO.out.below cb1).below cb2);unfold gC at hW3 ic;have HW3:=QH hW3;have HW4:=QH ic;clear cb1 cb2 hW3 ic qC jO;go_upto_region 2 with fail;try rw[HW3.out]
 try rw[HW4.out]
 clear HW3 HW4;have rN:=QH (HC.list (HCC.out W4 zT.out));go_wp2_with fail;refine rN.out.mono ?_;rintro e W5 ⟨A5,c5,rfl,-,-,hb⟩;rw[yS];have jJ:=QH (qa zT.out hb);have aT:=n4.out.below hb;have r0:=aT.cell 0;have r1:=aT.cell 1;have r2:=aT.cell 2;have r3:=aT.cell 3;have r4:=aT.cell 4;have r5:=aT.cell 5;have r6:=aT.cell 6;have z0:=aT.frozen 0;have z1:=aT.frozen 1;have z2:=aT.frozen 2;have z3:=aT.frozen 3;have z4:=aT.frozen 4;have z5:=aT.frozen 5;have z6:=aT.frozen 6;have rl:=aT.lt;simp only[pZ,QA,QB,QC]at r0 r1 r2 r3 r4 r5 r6;have HLD:Hid ((loadVar 41 ⟨g4,0,none⟩).run prog (yT W5 g4 (0,0) (0,0) 0 0 (.slice none 0 0))=.ok (.agg pZ) (yT W5 g4 (0,0) (0,0) 0 0 (.slice none 0 0))):=by
  rw[wN]at aT ⊢;exact qbY (jI aT)
 have bH:=QH (yg (b:=g4) (g:=(0,0)) (t:=(0,0)) (fr:=0) (all:=0) (v:=.slice none 0 0) jJ.out gJ.out);have zfj:(M:Int)≤(k:Int):=by omega
 clear hb aT rN zT n4 hkM;go_wp2_with fail;show bodyPost _ _ _ _ _ (yT W5 g4 (0,0) (0,0) 0 0 (.slice none 0 0));exact bodyPost_ret (v:=.tuple #[.agg pZ,.bool false]) (xT rfl _ _ _ ⟨g4,0,none⟩ _ _ rfl rfl HLD.out) rfl ⟨rfl,bH.out⟩
end Go.Proofs.YtdpbdkacngaemaaGreatDoor.rv
namespace Go.Proofs.YtdpbdkacngaemaaGreatDoor.rv
open _root_.Go.Proofs.Tryz Go Go.RowKit Go.Sort ib mt st
def quK (n:Nat)(w:World)(i:Value)(wr:World):Prop:=∃k:Nat,k≤n∧i=.int .i64 (k:Int)∧Below w.heap.size w wr
theorem qpT(n i:Nat)(h:i<((List.range n).map ch.kH).length):((List.range n).map ch.kH)[i]=ch.kH i:=by simp
theorem qln{IV:vt.yv}{IC:ch.rS}(H:vt.js IV)(HC:ch.Ops IC){o1 o2 o3:Nat→Prop}{w:World}{v pd pc M N k j:Nat}{d:vt.DD}{m:Mt}{lv:Nat→List Bt}{t:vt.Tg}(hv:vY lv)(hp:vt.VP IV w o1 o2 v pd d m false)(hJ:jr.JJ N t d)(hR:vt.xK 8 N t m)(hc:IC o3 w pc (aL lv M))(hr:Rc lv M k j t m)(hM:M≤8) :
    Calls prog 36 #[pt v,pt pc] w (qa6 w):=by
 have HP:Hid (∀W,Below w.heap.size w W→vt.VP IV W o1 o2 v pd d m false):=fun W hb=>ze H hp hb;have HCC:Hid (∀W,Below w.heap.size w W→IC o3 W pc (aL lv M)):=fun W hb=>HC.keep hc (fun j hj=>hb.block j (HC.low hc j hj)) hb.size;have HJ:=QH hJ;have cQ:=QH hR;have HV:=QH hv;have HSE:=QH hr.uk;have hkM:=hr.kM;have dc:=H.list hp.is;rw[hr.quD]at dc;have rN:=QH dc;have bE:((List.range k).map ch.kH).length=k:=by simp
 have gK:=QH bE;clear hp hJ hR hc hv hr dc bE;go_enter func36,ntmps36;go_wp2_with fail;refine rN.out.mono ?_;rintro e W1 ⟨A1,c1,rfl,hg1,-,hb⟩;rw[gK.out];have HG1:=QH hg1;have qT:=QH hb;have ie:=QH (HC.list (HCC.out W1 hb));clear hg1 hb rN;go_wp2_with fail;refine ie.out.mono ?_;rintro e W2 ⟨A2,c2,rfl,hg2,-,hb⟩;rw[yS];have HG2:=QH hg2;have q7V:=QH (HG1.out.below hb);have qC:=QH (qa qT.out hb);have hnk:¬ (M:Int)<(k:Int):=by omega
 clear hg2 hb ie qT HG1;go_wp2_with fail;clear hnk;go_loopw [7] (fun i wr=>quK k W2 i wr) (fun i _=>k-(intOf i).toNat);case atStart=>exact⟨0,Nat.zero_le _,rfl,Below.refl _ _⟩
 case round =>
  obtain⟨i,hik,rfl,hbr⟩:=hrel;have HBR:=QH hbr;clear hbr;by_cases hlt:i<k
  ·have yr:(i:Int)<(k:Int):=by omega
   have hiM:(i:Int)<(M:Int):=by omega
   obtain⟨b1,q1,rfl,hl1,e0,e1,_⟩:=q7V.out i (by rw[gK.out];exact hlt);obtain⟨b2,q2,rfl,hl2,f0,f1,_⟩:=HG2.out i (by rw[yS];omega);rw[qpT]at e0 e1;rw[rF]at f0 f1;have HGB:Hid (mt.xF (ch.kH i)):=qiw i (by omega);have dy:Hid (∀W,Below w.heap.size w W→Calls prog 42 #[pt v,ch.gv (ch.kH i)] W (ch.oV (lv (i+1),0) W)):=fun W hb=>by
    have h:=H.read (ch.kH i) (HP.out W hb) HJ.out cQ.out HGB.out;rw[HSE.out,qiv k i hlt]at h;exact h
   have HRC:Hid (∀W,Below w.heap.size w W→Calls prog 95 #[pt pc,ch.gv (ch.kH i)] W (ch.oV (lv (i+1),0) W)):=fun W hb=>by
    have h:=HC.read (ch.kH i) (HCC.out W hb) HGB.out;rw[qiv M i (by omega)]at h;exact h
   have h8:=(HV.out.ok (i+1)).1;obtain⟨G,hG⟩:=QE (ch.kH i);rw[hG]at e0 e1 f0 f1 dy HRC;obtain⟨x,hx⟩:=QE (G.1:Int);obtain⟨y,hy⟩:=QE (G.2:Int);unfold ch.gv at dy HRC;rw[hx]at e0 f0 dy HRC;rw[hy]at e1 f1 dy HRC;have HE:Hid (∀W,Below W2.heap.size W2 W→(W.cell? ⟨b1,q1+i*2,none⟩=some (.int .u64 x)∧W.cell? ⟨b1,q1+i*2+1,none⟩=some (.int .u64 y)∧b1<W.heap.size)∧(W.cell? ⟨b2,q2+i*2,none⟩=some (.int .u64 x)∧W.cell? ⟨b2,q2+i*2+1,none⟩=some (.int .u64 y)∧b2<W.heap.size)):=fun W hb =>
    ⟨⟨by rw[hb.cell (p:=⟨b1,q1+i*2,none⟩) hl1];exact e0,by rw[hb.cell (p:=⟨b1,q1+i*2+1,none⟩) hl1];exact e1,Nat.lt_of_lt_of_le hl1 hb.size⟩,
     by rw[hb.cell (p:=⟨b2,q2+i*2,none⟩) hl2];exact f0,by rw[hb.cell (p:=⟨b2,q2+i*2+1,none⟩) hl2];exact f1,Nat.lt_of_lt_of_le hl2 hb.size⟩
   have H8:=QH h8;obtain⟨TX,hTX⟩:=QE (lv (i+1));rw[hTX]at H8 dy HRC;clear e0 e1 f0 f1 hl1 hl2 hG hx hy h8 hTX;obtain⟨⟨e0,e1,el⟩,_⟩:=HE.out wr HBR.out;go_wp2_with fail;refine(dy.out wr (qa qC.out HBR.out)).mono ?_;rintro e W3 ⟨A3,c3,rfl,ht3,-,hb⟩;dsimp only at ht3 ⊢;rw[H8.out];have zB:=QH (qa HBR.out hb);have nN:=QH ht3;clear ht3 hb e0 e1 el dy;obtain⟨_,f0,f1,fl⟩:=HE.out W3 zB.out;go_wp2_with fail;refine(HRC.out W3 (qa qC.out zB.out)).mono ?_;rintro e W4 ⟨A4,c4,rfl,ht4,-,hb⟩;dsimp only at ht4 ⊢;rw[H8.out];have zT:=QH (qa zB.out hb);have q7W:=QH (nN.out.below hb);have HT4:=QH ht4;clear ht4 hb f0 f1 fl HRC zB nN;obtain⟨⟨e0,e1,el⟩,f0,f1,fl⟩:=HE.out W4 zT.out;have eX:(x == x)=true:=by simp
   have eY:(y == y)=true:=by simp
   go_upto_region 9 with fail;go_quiet (fail);have HQ:Hid (∀n,Below W4.heap.size W4 (W4.drewN n)):=fun n=>⟨(Below.refl W4.heap.size W4).os,(Below.refl W4.heap.size W4).tape,(Below.refl W4.heap.size W4).output,(Below.refl W4.heap.size W4).size,(Below.refl W4.heap.size W4).block⟩;clear e0 e1 el f0 f1 fl eX eY HE;obtain⟨wo,hwo⟩:∃x,x=wr:=⟨_,rfl⟩;subst hwo;go_wp2_with fail;go_loopw [12] (fun q wr=>quK 8 W4 q wr) (fun q _=>8-(intOf q).toNat);case atStart=>exact⟨0,by omega,rfl,HQ.out _⟩
   case round =>
    obtain⟨q,hq8,rfl,hbr⟩:=hrel;have HBq:=QH hbr;clear hbr HQ;by_cases hlq:q<8
    ·have hqi:(q:Int)<8:=by omega
     obtain⟨b3,o3,rfl,hl3,e3⟩:=q7W.out q (by rw[H8.out];exact hlq);obtain⟨b4,o4,rfl,hl4,e4⟩:=HT4.out q (by rw[H8.out];exact hlq);obtain⟨S,hS⟩:=QE (str (TX[q]'(by rw[H8.out];exact hlq)));rw[hS]at e3 e4;have g3:wr.cell? ⟨b3,o3+q,none⟩=some (.string S):=by rw[HBq.out.cell (p:=⟨b3,o3+q,none⟩) hl3];exact e3
     have g4:wr.cell? ⟨b4,o4+q,none⟩=some (.string S):=by rw[HBq.out.cell (p:=⟨b4,o4+q,none⟩) hl4];exact e4
     have l3:b3<wr.heap.size:=Nat.lt_of_lt_of_le hl3 HBq.out.size;have l4:b4<wr.heap.size:=Nat.lt_of_lt_of_le hl4 HBq.out.size;have eS:(S.toList == S.toList)=true:=by simp
     clear e3 e4 hS hl3 hl4;go_upto_region 14 with fail;go_quiet (fail);have HQ2:Hid (∀n,Below W4.heap.size W4 (wr.drewN n)):=fun n=>⟨HBq.out.os,HBq.out.tape,HBq.out.output,HBq.out.size,HBq.out.block⟩;clear g3 g4 l3 l4 eS;go_wp2_with fail;go_roundw;case rel=>exact⟨q+1,by omega,by go_num,HQ2.out _⟩
     case measure=>simp[intOf];omega
    ·have hqi:¬ (q:Int)<8:=by omega
     go_wp2_with fail;go_roundw;case rel=>exact⟨i+1,by omega,by go_num,qa zT.out HBq.out⟩
     case measure=>simp[intOf];omega
  ·have yr:¬ (i:Int)<(k:Int):=by omega
   go_wp2_with fail;go_ret;exact⟨rfl,qa qC.out HBR.out⟩
end Go.Proofs.YtdpbdkacngaemaaGreatDoor.rv
namespace Go.Proofs.YtdpbdkacngaemaaGreatDoor.rv
open _root_.Go.Proofs.Tryz Go Go.RowKit ib mt st
open vt (yv js VP DD Ke gN)
def Fs (IV:yv)(lv:Nat→List Bt)(M:Nat)(w:World)(B:Nat)(X:Nat→Prop)(v pd k j:Nat):Prop :=
 ∃t d m,V2 IV w B X v pd d m false∧vt.xK 8 500 t m∧jr.JJ 500 t d∧d.qz=0∧Rc lv M k j t m
def Snd (IC:ch.rS)(lv:Nat→List Bt)(M:Nat)(w:World)(B pc:Nat):Prop:=∃o3,IC o3 w pc (aL lv M)∧∀j,o3 j→j<B
abbrev q2R (IC:ch.rS):Prop:=∀ {own:Nat→Prop} {w:World} {p:Nat} {d:ch.CH} (k:Int),IC own w p d→kC k→Calls prog 94 #[pt p,.int .i64 k] w (ch.pg.qhd (d.changes k) w)
section
variable {IV:yv} {IC:ch.rS} (H:js IV) (HC:ch.Ops IC) (HCG:q2R IC) {lv:Nat→List Bt} (hl:vY lv) {w w':World} {B M v pd pc k j:Nat} {X Y:Nat→Prop}
include H in
theorem Fs.below(h:Fs IV lv M w B X v pd k j)(hb:Below w.heap.size w w'):Fs IV lv M w' B X v pd k j:=by
 obtain⟨t,d,m,h1,h2⟩:=h;exact⟨t,d,m,h1.below H hb,h2⟩
include H in
theorem Fs.more(h:Fs IV lv M w B X v pd k j)(hb:Below w.heap.size w w')(hY:∀j,Y j→X j∨(w.heap.size≤j∧j<w'.heap.size)):Fs IV lv M w' B Y v pd k j:=by
 obtain⟨t,d,m,h1,h2⟩:=h;exact⟨t,d,m,h1.more H hb hY,h2⟩
include H in
theorem Fs.turn{S:Nat→Prop}(h:Fs IV lv M w B X v pd k j)(hb:qB S w w')(hS:∀j,S j→X j∨w.heap.size≤j)(hY:∀j,Y j→X j∨(w.heap.size≤j∧j<w'.heap.size)):Fs IV lv M w' B Y v pd k j:=by
 obtain⟨t,d,m,h1,h2⟩:=h;exact⟨t,d,m,h1.turn H hb hS hY,h2⟩
theorem Fs.kM(h:Fs IV lv M w B X v pd k j):k≤M:=by
 obtain⟨t,d,m,_,_,_,_,h⟩:=h;exact h.kM
include HC in
theorem Snd.keep(h:Snd IC lv M w B pc)(hb:Below B w w'):Snd IC lv M w' B pc:=by
 obtain⟨o3,h1,h2⟩:=h;exact⟨o3,HC.keep h1 (fun j hj=>hb.block j (h2 j hj)) hb.size,h2⟩
include H hl in
theorem qi3(h:Fs IV lv M w B X v pd k j)(hk:k<M)(hM:M≤8)(hB:B≤w.heap.size)(A:Option Addr)(cp:Nat)(hp:cV w A cp (lp lv k j))(hA:∀b o,A=some ⟨b,o,none⟩→X b) :
    Calls prog 25 #[pt v,.agg (jL (lp lv k j) A cp)] w fun e w'=>e=.returned (.int .i64 0)∧Fs IV lv M w' B X v pd (sQ lv k j).1 (sQ lv k j).2∧Ke B X w w':=by
 obtain⟨t,d,m,h1,h2,h3,h4,h5⟩:=h;have hs:(lp lv k j).zU.length≤1000:=by
  have:(lp lv k j).zU.length=_:=fP (yq k) (ch.kH k) (df lv k) j;omega
 refine(nj H h1 hB A cp _ h3 (by omega) h2 hp hs hA).mono ?_;rintro e w' ⟨r,d',m',l',rfl,hv,uY,hq⟩;obtain⟨rfl,rfl,hf',t',g1,g2,g3⟩:=qle hl h5 hk hM h2 (by decide) h3 h4 hq;exact⟨rfl,⟨t',d',m',hv,g2,g1,hf',g3⟩,uY⟩
def le2 (a b k j:Nat):Prop:=a<k∨(a=k∧b≤j)
def lt2 (a b k j:Nat):Prop:=a<k∨(a=k∧b<j)
include H hl in
include H in
include H HC HCG hl in
theorem qtp(h:Fs IV lv M w B X v pd k j)(hs:Snd IC lv M w B pc)(hk:k<M)(hM:M≤8):Calls prog 35 #[pt v,pt pc] w (NxP (lp lv k j) w):=by
 obtain⟨t,d,m,⟨o1,o2,h1,_⟩,h2,h3,h4,h5⟩:=h;obtain⟨o3,hc,_⟩:=hs;exact qlj H HC HCG (pd:=pd) hl h1.is hc h5 hk hM
include H HC in
theorem qtq(h:Fs IV lv M w B X v pd k j)(hs:Snd IC lv M w B pc)(hk:¬ k<M)(hM:M≤8):Calls prog 35 #[pt v,pt pc] w (NxN w):=by
 obtain⟨t,d,m,⟨o1,o2,h1,_⟩,h2,h3,h4,h5⟩:=h;obtain⟨o3,hc,_⟩:=hs;exact qlm H HC (pd:=pd) h1.is hc h5 hk hM
include H HC hl in
theorem qey(h:Fs IV lv M w B X v pd k j)(hs:Snd IC lv M w B pc)(hM:M≤8):Calls prog 36 #[pt v,pt pc] w (qa6 w):=by
 obtain⟨t,d,m,⟨o1,o2,h1,_⟩,h2,h3,h4,h5⟩:=h;obtain⟨o3,hc,_⟩:=hs;exact qln H HC hl h1 h3 h2 hc h5 hM
include H in
theorem qtr(h:Fs IV lv M w B X v pd k j):Calls prog 37 #[pt v] w (ch.oW ((List.range k).map ch.kH) w):=by
 obtain⟨t,d,m,⟨o1,o2,h1,_⟩,h2,h3,h4,h5⟩:=h;have:=H.list h1.is;rw[h5.quD]at this;exact this
include HC in
theorem qts(hs:Snd IC lv M w B pc):Calls prog 38 #[pt pc] w (ch.oW (aL lv M).list w):=by
 obtain⟨o3,hc,_⟩:=hs;exact HC.list hc
include hl in
theorem nk (h:Fs IV lv M w B X v pd k j)(hk:k<M):left M (sQ lv k j).1 (sQ lv k j).2+1≤left M k j:=by
 obtain⟨t,d,m,_,_,_,_,h5⟩:=h;exact qkZ hl h5 hk
theorem le_of_lt{a b c d:Nat}(h:lt2 a b c d):le2 a b c d:=by unfold le2 lt2 at *;omega
include hl in
theorem qxI(t:vt.Tg)(M:Nat):Rc lv M 0 0 t (vt.m0 8):=by
 refine⟨?_,Nat.zero_le _,fun _=>rfl,fun h=>absurd rfl h,rfl⟩;unfold vt.uk vt.m0 aL vt.volume;rw[List.map_replicate];have:=hl.zero;unfold ch.uO at this;rw[this];rfl
end
structure Sx where
 k:Nat
 j:Nat
 A:Option Addr
 c:Nat
def sC (lv:Nat→List Bt)(x:Sx):List Value:=(jL (lp lv x.k x.j) x.A x.c).toList
theorem qht(lv:Nat→List Bt)(x:Sx):(sC lv x).length=7:=rfl
theorem qpU(lv:Nat→List Bt):∀(l:List Sx) (i:Nat) (h:i<l.length) (q:Nat),q<7→(l.flatMap (sC lv))[i*7+q]?=(sC lv l[i])[q]?
 | x::r,0,_,q,hq=>by
  rw[List.flatMap_cons,List.getElem?_append_left (by rw[qht];omega),Nat.zero_mul,Nat.zero_add];rfl
 | x::r,i+1,h,q,hq=>by
  rw[List.flatMap_cons,List.getElem?_append_right (by rw[qht];omega),qht,show(i+1)*7+q-7=i*7+q from by omega];exact qpU lv r i (by simpa using h) q hq
structure Snt(lv:Nat→List Bt)(W:World)(B:Nat)(sv:Value)(l:List Sx)(X:Nat→Prop)(k j:Nat):Prop where
 own:W.ownsRow B 41 7 sv l.length (l.flatMap (sC lv))
 blk:∀q,sv.ownBlock=some q→X q
 pal:∀x∈l,cV W x.A x.c (lp lv x.k x.j)
 inX:∀x∈l,∀b o,x.A=some ⟨b,o,none⟩→X b∧sv.ownBlock≠some b
 old:∀x∈l,le2 x.k x.j k j
theorem Snt.kept{lv:Nat→List Bt}{W W':World}{B:Nat}{sv:Value}{l:List Sx}{X:Nat→Prop}{k j:Nat}(h:Snt lv W B sv l X k j)(hs:W.heap.size≤W'.heap.size)(hk:∀q,X q→q<W.heap.size→W'.heap[q]?=W.heap[q]?):Snt lv W' B sv l X k j :=
 ⟨zf h.own (fun q hq=>hk q (h.blk q hq) (h.own.lt q hq).2),h.blk,fun x hx=>fR (h.pal x hx) hs (fun b o e hb=>hk b (h.inX x hx b o e).1 hb),h.inX,h.old⟩
theorem Snt.nil(lv:Nat→List Bt)(W:World)(B:Nat)(X:Nat→Prop)(k j:Nat):Snt lv W B (.slice none 0 0) [] X k j :=
 ⟨World.ownsRow_nil _ _ _ _,fun q h=>by simp[Value.ownBlock]at h,fun x hx=>absurd hx (by simp),fun x hx=>absurd hx (by simp),fun x hx=>absurd hx (by simp)⟩
theorem Snt.cell{lv:Nat→List Bt}{W:World}{B n c:Nat}{A:Option Addr}{l:List Sx}{X:Nat→Prop}{k j:Nat}(h:Snt lv W B (.slice A n c) l X k j){y:Nat}(hy:y<l.length):∃g,A=some ⟨g,0,none⟩∧g<W.heap.size∧∀q,q<7→W.cell? ⟨g,y*7+q,none⟩=(sC lv l[y])[q]? :=by
 rcases h.own.2 with⟨_,e⟩|⟨g,cap,cur,e1,hg,hh,hcc,hm,hcs,xg⟩
 ·omega
 ·simp only[Value.slice.injEq]at e1;obtain⟨rfl,_,_⟩:=e1;refine⟨g,rfl,(Array.getElem?_eq_some_iff.1 hh).1,fun q hq=>?_⟩;rw[cell_of_row W g (y*7+q) cur 41 (0,0) hh,← qpU lv l y hy q hq,← xg,List.getElem?_take];rw[if_pos (by omega)];simp
end Go.Proofs.YtdpbdkacngaemaaGreatDoor.rv
namespace Go.Proofs.YtdpbdkacngaemaaGreatDoor.rv
open _root_.Go.Proofs.Tryz Go Go.RowKit ib mt st
open vt (yv js VP DD Ke gN)
theorem qhu{w w':World}{B:Nat}{A:Option Addr}{bs:List Bool}(h:dk.vB w A bs)(hk:∀b o,A=some ⟨b,o,none⟩→0<bs.length→b<B)(hb:Below B w w'):dk.vB w' A bs:=fun i hi=>by
 obtain⟨b,o,h1,h2,h3⟩:=h i hi;exact⟨b,o,h1,Nat.lt_of_lt_of_le h2 hb.size,by rw[hb.cell (p:=⟨b,o+i,none⟩) (hk b o h1 (by omega))];exact h3⟩
theorem qtt{d:DD}(h:d.on=false)(hf:d.qz=0):d.off=d:=by
 obtain⟨a,b,c,e,f⟩:=d;dsimp only at h hf;subst h;subst hf;rfl
def Fp (IV:yv)(lv:Nat→List Bt)(M:Nat)(w:World)(B:Nat)(X:Nat→Prop)(v pd k j:Nat):Prop :=
 ∃t d m,V2 IV w B X v pd d m false∧vt.xK 8 500 t m∧jr.JJ 500 t d∧0≤d.qz∧Rc lv M k j t m
def Fg (IV:yv)(lv:Nat→List Bt)(M:Nat)(w:World)(B:Nat)(X:Nat→Prop)(v pd k j:Nat):Prop :=
 ∃d m l,V2 IV w B X v pd d m l∧d.on=false∧d.qz=0∧∀keep,∃t n k' j',jr.RJ 500 t (d.qaU keep)∧vt.xK 8 500 t n∧Rc lv M k' j' t n∧((k'=k∧j'=j)∨(k'=(sQ lv k j).1∧j'=(sQ lv k j).2))
def Fw (IV:yv)(lv:Nat→List Bt)(M:Nat)(w:World)(B:Nat)(X:Nat→Prop)(v pd k j:Nat):Prop :=
 ∃t n d m l,V2 IV w B X v pd d m l∧jr.RJ 500 t d∧d.qz=0∧vt.xK 8 500 t n∧Rc lv M k j t n
section
variable {IV:yv} (H:js IV) {lv:Nat→List Bt} (hl:vY lv) {w w':World} {B M v pd k j:Nat} {X:Nat→Prop}
theorem Fs.fp(h:Fs IV lv M w B X v pd k j):Fp IV lv M w B X v pd k j:=by
 obtain⟨t,d,m,h1,h2,h3,h4,h5⟩:=h;exact⟨t,d,m,h1,h2,h3,by omega,h5⟩
include H in
theorem qxK(h:Fs IV lv M w B X v pd k j)(hB:B≤w.heap.size)(n:Int)(hn:n≤9223372036854775807):Calls prog 18 #[pt pd,.int .i64 n] w fun e w'=>e=.returned (.tuple #[])∧Fp IV lv M w' B X v pd k j∧Ke B X w w':=by
 obtain⟨t,d,m,h1,h2,h3,h4,h5⟩:=h;refine(ni H h1 (d1:=d.arm n) (r:=.tuple #[]) hB (fun o2 hd _=>dk.qhH hd n hn)).mono ?_;rintro e w' ⟨rfl,hv,hk⟩;exact⟨rfl,⟨t,_,m,hv,h2,⟨⟨h3.on,h3.more,h3.room,h3.rb⟩,h3.is⟩,by show 0≤max n 0;omega,h5⟩,hk⟩
include H in
theorem qbZ(h:Fp IV lv M w B X v pd k j)(hB:B≤w.heap.size):Calls prog 18 #[pt pd,.int .i64 0] w fun e w'=>e=.returned (.tuple #[])∧Fs IV lv M w' B X v pd k j∧Ke B X w w':=by
 obtain⟨t,d,m,h1,h2,h3,h4,h5⟩:=h;refine(ni H h1 (d1:=d.arm 0) (r:=.tuple #[]) hB (fun o2 hd _=>dk.qhH hd 0 (by decide))).mono ?_;rintro e w' ⟨rfl,hv,hk⟩;exact⟨rfl,⟨t,_,m,hv,h2,⟨⟨h3.on,h3.more,h3.room,h3.rb⟩,h3.is⟩,rfl,h5⟩,hk⟩
theorem qpV(h:Fp IV lv M w B X v pd k j):Calls prog 39 #[pt pd] w fun e w'=>e=.returned (.bool true)∧w=w':=by
 obtain⟨t,d,m,⟨o1,o2,h1,_⟩,h2,h3,h4,h5⟩:=h;obtain⟨h0,mp,u,hd⟩:=h1.dk;have h:=dk.qf8 hd;rw[h3.on]at h;exact h
def FpP (IV:yv)(lv:Nat→List Bt)(M B:Nat)(X:Nat→Prop)(v pd k j:Nat)(w:World)(e:Ending)(w':World):Prop :=
 ∃r,e=.returned (.int .i64 r)∧((r=0∧Fp IV lv M w' B X v pd (sQ lv k j).1 (sQ lv k j).2)∨(r=6∧Fg IV lv M w' B X v pd k j))∧Ke B X w w'
include H hl in
theorem qtu(h:Fp IV lv M w B X v pd k j)(hk:k<M)(hM:M≤8)(hB:B≤w.heap.size)(A:Option Addr)(cp:Nat)(hp:cV w A cp (lp lv k j))(hA:∀b o,A=some ⟨b,o,none⟩→X b) :
    Calls prog 25 #[pt v,.agg (jL (lp lv k j) A cp)] w (FpP IV lv M B X v pd k j w):=by
 obtain⟨t,d,m,h1,h2,h3,h4,h5⟩:=h;have hs:(lp lv k j).zU.length≤1000:=by
  have:(lp lv k j).zU.length=_:=fP (yq k) (ch.kH k) (df lv k) j;omega
 refine(nj H h1 hB A cp _ h3 h4 h2 hp hs hA).mono ?_;rintro e w' ⟨r,d',m',l',rfl,hv,uY,hq⟩;have ha:=qer hl h5 hk h2.ok.len;obtain⟨P,hP⟩:=QE (vt.xp 500 m (jW (lp lv k j)) (lp lv k j).zU);obtain⟨c0,hok,hw,hrc⟩:=qa3 hl h5 hk hM h2 (by decide) hP;rcases hq with⟨h0,_⟩|⟨_,hq⟩
 ·exact absurd ha h0
 ·rw[hP]at hq;rcases hq with⟨h0,_⟩|⟨_,rfl,hj',rfl,rfl,_,hf'⟩|⟨_,rfl,hg,rfl,_,hf'⟩
  ·exact absurd c0 h0
  ·exact⟨0,rfl,.inl ⟨rfl,_,d',_,hv,h2.next hok hw,hj',hf',hrc⟩,uY⟩
  ·refine⟨6,rfl,.inr ⟨rfl,d',m',true,hv,hg.1,hf',fun keep=>?_⟩,uY⟩;have hw2:=hg.2 keep;rcases hw2 with hw2|hw2
   ·exact⟨t,m,k,j,hw2,h2,h5,.inl ⟨rfl,rfl⟩⟩
   ·exact⟨_,_,_,_,hw2,h2.next hok hw,hrc,.inr ⟨rfl,rfl⟩⟩
include H in
theorem qxL(h:Fg IV lv M w B X v pd k j)(hB:B≤w.heap.size):Calls prog 20 #[pt pd] w fun e w'=>e=.returned (.tuple #[])∧Fg IV lv M w' B X v pd k j∧Ke B X w w':=by
 obtain⟨d,m,l,h1,h2,h3,h4⟩:=h;refine(ni H h1 (d1:=d.off) (r:=.tuple #[]) hB (fun o2 hd _=>dk.qhG hd)).mono ?_;rintro e w' ⟨rfl,hv,hk⟩;rw[qtt h2 h3]at hv;exact⟨rfl,⟨d,m,l,hv,h2,h3,h4⟩,hk⟩
def FwP (IV:yv)(lv:Nat→List Bt)(M B:Nat)(X:Nat→Prop)(v pd k j:Nat)(w:World)(e:Ending)(w':World):Prop :=
 ∃k' j',e=.returned (.tuple #[])∧Fw IV lv M w' B X v pd k' j'∧((k'=k∧j'=j)∨(k'=(sQ lv k j).1∧j'=(sQ lv k j).2))∧Ke B X w w'
include H in
theorem qtv(h:Fg IV lv M w B X v pd k j)(hB:B≤w.heap.size)(A:Option Addr)(c:Nat)(bs:List Bool)(hb:dk.vB w A bs)(hA:∀b o,A=some ⟨b,o,none⟩→0<bs.length→b<B) :
    Calls prog 21 #[pt pd,.slice A bs.length c] w (FwP IV lv M B X v pd k j w):=by
 obtain⟨d,m,l,h1,h2,h3,h4⟩:=h;refine(ni H h1 (d1:=d.qaU bs) (r:=.tuple #[]) hB (fun o2 hd ho=>dk.qnT hd (by decide) h2 A c bs hb (fun b o e h0 hown=>by
  have h1:=hA b o e h0;have h2:=(ho b hown).1;omega))).mono ?_
 rintro e w' ⟨rfl,hv,hk⟩;obtain⟨t,n,k',j',g1,g2,g3,g4⟩:=h4 bs;have hf:(d.qaU bs).qz=0:=by
  unfold dk.DD.qaU;split
  ·exact h3
  ·exact h3
 exact⟨k',j',rfl,⟨t,n,_,m,l,hv,g1,hf,g2,g3⟩,g4,hk⟩
include H in
theorem qtw(h:Fw IV lv M w B X v pd k j)(hB:B≤w.heap.size):Calls prog 11 #[pt pd] w
      fun e w'=>∃v',e=.returned (.tuple #[pt v',.int .i64 0])∧Fs IV lv M w' B X v' pd k j∧Ke B X w w':=by
 obtain⟨t,n,d,m,l,h1,h2,h3,h4,h5⟩:=h;refine(qtg H h1 hB h2 h3 h4).mono ?_;rintro e w' ⟨v',d',rfl,hv,hj,hf,hk⟩;exact⟨v',rfl,⟨t,d',n,hv,h4,hj,hf,h5⟩,hk⟩
end
end Go.Proofs.YtdpbdkacngaemaaGreatDoor.rv

/- A vault takes a change in parts, and goes on where it stopped. -/
import Derived.Test.YtdagdllomphidaaGreatDoorZP12
import Derived.Test.YtdagdllomphidaaGreatDoorZP13
import Derived.Test.YtdagdllomphidaaGreatDoorCards
import Derived.Test.YtdagdllomphidaaGreatDoorTie
import Derived.SevenTiedAt
import Derived.ProofKit
import Derived.ShutString
import Derived.SizedLaws
import Derived.ChangeOld
import Derived.SliceStrings
set_option linter.unusedVariables false
set_option linter.unusedSimpArgs false
set_option maxHeartbeats 30000000
set_option maxRecDepth 100000
namespace Go.Proofs.YtdagdllomphidaaGreatDoor.vt
open _root_.Go.Proofs.Tryz Go Go.RowKit ib jr mt im sp
def qu6 (w:World)(A:Option Addr)(l:List DoP):Prop :=
 ∀i (h:i<l.length),∃b o,A=some ⟨b,o,none⟩∧b<w.heap.size∧w.cell? ⟨b,o+i*3,none⟩=some (.int .u8 (l[i].k:Int))∧w.cell? ⟨b,o+i*3+1,none⟩=some (.int .u8 (l[i].n:Int))∧w.cell? ⟨b,o+i*3+2,none⟩=some (.int .u8 (l[i].z.toNat:Int))∧l[i].k<256∧l[i].n<256
end Go.Proofs.YtdagdllomphidaaGreatDoor.vt
namespace Go.Proofs.YtdagdllomphidaaGreatDoor
open _root_.Go.Proofs.Tryz Go Go.ChangeShapes Go.WideShapes Go.Deep
theorem iv {H:Type}{enc:TypeId × Value→H}{P:Program}{w:World}{base:Nat}{spare:Nat→Bool}{held:Bool}{t e:TypeId}{fs:Array Field}{fuel:Nat}{cs:List Value}{x:DataW H × List MemPlace}
    (ht:P.underlying t=some (.slice e)) (he:P.underlying e=some (.struct fs)) (tG:∀(i:Nat) (f:Field),fs[i]?=some f→f.offset=i∧P.cellsOf f.type=1) (ce:P.cellsOf e=fs.size)
    (h:DataW.trod enc P w base spare held fuel t cs=some x) :
    (cs=[.slice none 0 0]∧x=(.nil,[])) ∨
    ∃(a:Addr) (len cap m:Nat),cs=[.slice (some a) len cap]∧base≤a.block∧len≤cap∧cap≤maxLen∧m=(if spare a.block then cap else len) ∧
     ∀i,i<m→∀k f,fs[k]?=some f→∃v y n,w.cell? (a.add (i*fs.size+k))=some v∧DataW.trod enc P w base spare held n f.type [v]=some y:=by
 rcases open_slice ht h with h0|⟨a,len,cap,m,n,D,Pl,rfl,hb,hl,hm,hmm,rfl,hx⟩
 ·exact Or.inl h0
 right
 refine⟨a,len,cap,m,rfl,hb,hl,hm,hmm,fun i hi k f hk=>?_⟩;obtain⟨cs',h1,h2⟩:=hx i hi;rw[ce]at h1;obtain⟨_,hlen,hcell⟩:=World.cells?_some h1;obtain⟨xs,n',_,_,_,aW,hf⟩:=DataW.trod_struct he h2;have hlt:k<fs.size:=(Array.getElem?_eq_some_iff.1 hk).1;obtain⟨ho,hc1⟩:=tG k f hk;have g:=hf k f hk;rw[ho,hc1,take1_drop cs' k undef (by omega),List.getElem?_eq_getElem (by omega)]at g;have hcl:=hcell k hlt;rw[add_add,List.getElem?_eq_getElem (by omega)]at hcl;refine⟨cs'.getD k undef,_,n',?_,g⟩;rw[hcl];simp[List.getD,List.getElem?_eq_getElem (show k<cs'.length by omega)]
end Go.Proofs.YtdagdllomphidaaGreatDoor
namespace Go.Proofs.YtdagdllomphidaaGreatDoor.vt
open _root_.Go.Proofs.Tryz Go Go.RowKit Go.ChangeShapes Go.WideShapes Go.Deep ib
theorem qpE{x:Int}(h:(Lit.int .u8 x).wf=true):∃c:Nat,x=(c:Int)∧c<256:=by
 have hb:=bounds_u8 h;exact⟨x.toNat,by omega,by omega⟩
theorem ix {x:Int}(h:(Lit.int .u8 x).wf=true):∃c:UInt8,x=(c.toNat:Int):=by
 have hb:=bounds_u8 h;exact⟨UInt8.ofNat x.toNat,by rw[UInt8.toNat_ofNat'];omega⟩
theorem qsY{P:Program}{fs:Array Field}(h:(List.range fs.size).all (fun i=>match fs[i]? with|some f=>decide (f.offset=i)&&decide (P.cellsOf f.type=1)|none=>true)=true):∀(i:Nat) (f:Field),fs[i]?=some f→f.offset=i∧P.cellsOf f.type=1:=by
 intro i f hf;have hi:=(Array.getElem?_eq_some_iff.1 hf).1;have:=List.all_eq_true.1 h i (List.mem_range.2 hi);rw[hf]at this;simpa using this
section
variable {H:Type} {enc:TypeId × Value→H} {w:World} {held:Bool} {a:Option Addr} {l c:Nat} {d:DataW H} {pl:List MemPlace}
theorem qx6(h:DataW.Trod enc prog w 0 (fun _=>true) held 22 (.slice a l c) d pl):∃zs:List DoP,zs.length=l∧l≤9223372036854775807∧qu6 w a zs:=by
 obtain⟨fuel,hf⟩:=h;rcases iv underlying22 underlying34 (qsY (by kernel_rfl)) (by kernel_rfl) hf with⟨hcs,_⟩|⟨x,l',c',m,hcs,_,hl,hm,hmm,hi⟩
 ·simp[Value.cells]at hcs;obtain⟨rfl,rfl,rfl⟩:=hcs;exact⟨[],rfl,by omega,fun i h=>absurd h (by simp)⟩
 ·simp[Value.cells]at hcs;obtain⟨rfl,rfl,rfl⟩:=hcs;simp only[if_true]at hmm;subst hmm;unfold maxLen at hm;obtain⟨zs,hzl,hz⟩:=dJ (p:=fun i (z:DoP)=>w.cell? (x.add (i*3))=some (.int .u8 (z.k:Int))∧w.cell? (x.add (i*3+1))=some (.int .u8 (z.n:Int))∧w.cell? (x.add (i*3+2))=some (.int .u8 (z.z.toNat:Int))∧z.k<256∧z.n<256) l (fun i eE=>by
   obtain⟨v0,y0,n0,e0,g0⟩:=hi i (by omega) 0 _ rfl;obtain⟨v1,y1,n1,e1,g1⟩:=hi i (by omega) 1 _ rfl;obtain⟨v2,y2,n2,e2,g2⟩:=hi i (by omega) 2 _ rfl;obtain⟨k0,h0,_,b0⟩:=DataW.trod_int underlying5 g0;obtain⟨k1,h1,_,b1⟩:=DataW.trod_int underlying5 g1;obtain⟨k2,h2,_,b2⟩:=DataW.trod_int underlying5 g2;obtain⟨c0,rfl,l0⟩:=qpE b0;obtain⟨c1,rfl,l1⟩:=qpE b1;obtain⟨c2,rfl⟩:=ix b2;obtain rfl:v0=_:=by simpa using h0
   obtain rfl:v1=_:=by simpa using h1
   obtain rfl:v2=_:=by simpa using h2
   exact⟨⟨c0,c1,c2⟩,e0,e1,e2,l0,l1⟩)
  refine⟨zs,hzl,by omega,fun i eE=>?_⟩;have h0:=(hz 0 (by omega)).1;rw[Nat.zero_mul]at h0;obtain⟨b,o,rfl,hb⟩:=qyE h0;have:=hz i eE;rw[addr_add,addr_add,addr_add]at this;simp only[Nat.add_assoc]at this ⊢;exact⟨b,o,rfl,hb,this⟩
end
end Go.Proofs.YtdagdllomphidaaGreatDoor.vt
namespace Go.Proofs.YtdagdllomphidaaGreatDoor.vt
open _root_.Go.Proofs.Tryz Go Go.RowKit jr mt im sp
theorem sF (x y:List (Int × Bt)):∀l,zm l (x++y)=zm (zm l x) y:=by
 induction x with
 | nil=>exact fun l=>rfl
 | cons a r ih=>exact fun l=>ih _
structure Few(k:Nat)(c:ch.CH):Prop where
 n:c.qa.length≤k
 ep:∀s∈c.qa,s.g.1≤1
theorem Few.more{k:Nat}{c:ch.CH}(h:Few k c):Few (k+1) c:=⟨by have:=h.n;omega,h.ep⟩
theorem Few.push{k:Nat}{c:ch.CH}(h:Few k c)(l:List Bt)(v:List Bt)(n:Nat):Few (k+1) ⟨l,c.qa++[⟨(1,n),v,false⟩]⟩:=by
 refine⟨by simp;exact h.n,fun s hs=>?_⟩;rcases List.mem_append.1 hs with hs|hs
 ·exact h.ep s hs
 ·obtain rfl:=List.mem_singleton.1 hs;exact Nat.le_refl _
theorem qpF{k:Nat}{c:ch.CH}(h:Few k c)(x:DoP)(next:Nat):Few (k+1) (xf c x next).1:=by
 unfold xf;split
 ·unfold ch.CH.write;split
  ·exact h.more
  ·exact⟨by have:=h.n;show c.qa.length≤k+1;omega,h.ep⟩
 split
 ·unfold ch.CH.snap;split
  ·exact h.push _ _ _
  ·exact h.more
 split
 ·unfold ch.CH.roll;split
  ·exact h.more
  ·refine⟨?_,fun s hs=>h.ep s (List.mem_of_mem_take hs)⟩;have:=h.n;simp only[List.length_take];omega
 split
 ·unfold ch.CH.kY;split
  ·exact h.more
  ·split
   ·exact h.more
   ·split
    ·exact h.more
    ·refine⟨by have:=h.n;simp only[ch.xj,List.length_modify];omega,fun s hs=>?_⟩;obtain⟨i,hi,rfl⟩:=List.getElem_of_mem hs;simp only[ch.xj,List.length_modify]at hi;simp only[ch.xj,List.getElem_modify];split
     ·have:=h.ep _ (List.getElem_mem hi);exact this
     ·exact h.ep _ (List.getElem_mem hi)
 ·unfold ch.CH.add;split
  ·split
   ·exact h.more
   ·exact h.push _ _ _
  ·exact h.more
theorem Few.last{k:Nat}{c:ch.CH}(h:Few k c):c.last.1≤1:=by
 unfold ch.CH.last;split
 ·exact Nat.zero_le _
 ·rename_i s hs;exact h.ep s (List.mem_of_getLast? hs)
theorem qaM{g:Gd}(h:g.1≤1):mt.above (2,1) g=true:=by
 unfold mt.above;have:g.1<2:=by omega
 simp[this]
def zf (S:Nat→Bt)(k:Nat):List (Int × Bt):=(List.range k).map fun(i:Nat)=>((i:Int),S i)
theorem zg (S:Nat→Bt)(k:Nat):(zf S k).length=k:=by simp[zf]
theorem gU (S:Nat→Bt)(k:Nat):zf S (k+1)=zf S k++[((k:Int),S k)]:=by simp[zf,List.range_succ]
theorem qpG(S:Nat→Bt)(hS:∀i,(S i).length=32):zH 8 (-1) (zf S 8)=true:=by
 have e:zf S 8=[(0,S 0),(1,S 1),(2,S 2),(3,S 3),(4,S 4),(5,S 5),(6,S 6),(7,S 7)]:=rfl;rw[e];simp[zH,hS]
theorem qx7(S:Nat→Bt)(hS:∀i,(S i).length=32)(k:Nat)(hk:k<8):zH 8 (-1) [((k:Int),S k)]=true:=by
 simp only[zH,hS,Bool.and_true,Bool.and_eq_true,decide_eq_true_eq,and_true];omega
structure Part(c:ch.CH)(t:Tg)(m:Mt)(V:List Bt)(i:Nat):Prop where
 zh:zh t m=c
 tok:if i=0 then m.tok=zD else tf m.tok=⟨qw m,(2,1),(i:Int),8⟩
 ql:∀n,volume t (zr m ⟨qw m,(2,1),n,8⟩)=V
section
variable {N i:Nat} {t:Tg} {m:Mt} {c:ch.CH} {V:List Bt}
theorem qaN(hs:zh t m=c)(ht:m.tok=zD):Part c t m c.base 0:=by
 refine⟨hs,by rw[if_pos rfl];exact ht,fun n=>?_⟩;have:zr m ⟨qw m,(2,1),n,8⟩=xN m:=by
  unfold zr;rw[if_neg];rw[ht];rintro⟨_,h,_⟩;cases h
 rw[this,← fH,hs]
theorem qpH(h:qO 8 N t m){k:Nat}(hf:Few k c)(hk:k≤19)(hp:Part c t m V i)(S:Nat→Bt)(hS:∀i,(S i).length=32)(hi:i<8) :
    zQ m.live.length m.qa.length (qw m) ⟨qw m,(2,1),(i:Int)+1,8⟩ [((i:Int),S i)]=0:=by
 have hl:m.live.length=8:=h.ok.len;have hlg:(qw m).1≤1:=by rw[← kI t,hp.zh];exact hf.last
 have hns:m.qa.length≤19:=by
  have:(zh t m).qa.length=m.qa.length:=by simp[vt.zh]
  rw[← this,hp.zh];exact Nat.le_trans hf.n hk
 unfold zQ;rw[hl,if_neg,if_neg,if_neg]
 ·omega
 ·rw[qx7 S hS i hi];decide
 ·rw[qaM hlg];simp;omega
theorem qaO(h:qO 8 N t m)(hN:377≤N){k:Nat}(hf:Few k c)(hk:k≤19)(hp:Part c t m V i)(S:Nat→Bt)(hS:∀i,(S i).length=32)(hi:i<8) :
    (qV N m ⟨qw m,(2,1),(i:Int)+1,8⟩ [((i:Int),S i)]).code=0∧qnv 8 N t m ⟨qw m,(2,1),(i:Int)+1,8⟩ [((i:Int),S i)] (qV N m ⟨qw m,(2,1),(i:Int)+1,8⟩ [((i:Int),S i)]):=by
 rcases uR h ⟨qw m,(2,1),(i:Int)+1,8⟩ (show zZ (2,1)from⟨by decide,by decide⟩) [((i:Int),S i)]with⟨_,hv,_⟩|⟨h1,h2⟩
 ·have:=hv.far h.ok (by simp);omega
 ·rw[qpH h hf hk hp S hS hi]at h1;exact⟨h1,h2 h1⟩
theorem qlo(h:qO 8 N t m)(hN:377≤N){k:Nat}(hf:Few k c)(hk:k≤19)(hp:Part c t m V i)(S:Nat→Bt)(hS:∀i,(S i).length=32)(hi:i<7){P:bD}(hP:qV N m ⟨qw m,(2,1),(i:Int)+1,8⟩ [((i:Int),S i)]=P) :
    P.code=0∧Does 8 N t m P c∧Part c (over t (qz t P.m P.ws)) P.m (zm V [((i:Int),S i)]) (i+1):=by
 obtain⟨h1,h2⟩:=qaO h hN hf hk hp S hS (by omega);rw[hP]at h1 h2;obtain⟨hd,ht,hv⟩:=h2.part (by dsimp only;omega);rw[hp.zh]at hd;rw[hp.ql]at hv;have hlg:qw P.m=qw m:=by rw[← kI (over t (qz t P.m P.ws)),hd.zh,← hp.zh,kI]
 refine⟨h1,hd,hd.zh,?_,fun n=>?_⟩
 ·rw[if_neg (by omega),hlg,ht];simp
 ·have:zr P.m ⟨qw P.m,(2,1),n,8⟩=P.m.tok.ql:=by
     unfold zr;rw[if_pos];have e:=ht;unfold tf at e;injection e with e1 e2 e3 e4
     exact⟨by rw[hlg];exact e1,e2,e4⟩
  rw[this];exact hv
theorem qlp(h:qO 8 N t m)(hN:377≤N){k:Nat}(hf:Few k c)(hk:k≤19)(hp:Part c t m V 7)(S:Nat→Bt)(hS:∀i,(S i).length=32){P:bD}(hP:qV N m ⟨qw m,(2,1),8,8⟩ [((7:Int),S 7)]=P) :
    P.code=0∧Does 8 N t m P ⟨zm V [((7:Int),S 7)],c.qa++[⟨(2,1),zm V [((7:Int),S 7)],false⟩]⟩∧P.m.tok=zD:=by
 obtain⟨h1,h2⟩:=qaO h hN hf hk hp S hS (by omega);have e:(((7:Nat):Int)+1)=8:=rfl;rw[e]at h1 h2;rw[show(((7:Nat):Int))=7 from rfl,hP]at h1 h2;obtain⟨hd,ht⟩:=h2.whole rfl;rw[hp.ql,hp.zh]at hd;exact⟨h1,hd,ht⟩
end
theorem qiB{k:Nat}{c:ch.CH}(hf:Few k c)(hk:k≤19)(h8:c.live.length=8)(hb:c.base.length=8)(S:Nat→Bt)(hS:∀i,(S i).length=32) :
    c.add (2,1) (zf S 8)=(⟨zm c.base (zf S 8),c.qa++[⟨(2,1),zm c.base (zf S 8),false⟩]⟩,0):=by
 rw[qar c (2,1) (zf S 8) (by rw[h8];exact qpG S hS) (by rw[hb,h8]),if_pos];unfold ch.CH.may;have h1:ch.above (2,1) c.last=true:=qaM hf.last;rw[h1,if_pos rfl,if_neg];have:=hf.n;omega
end Go.Proofs.YtdagdllomphidaaGreatDoor.vt
namespace Go.Proofs.YtdagdllomphidaaGreatDoor.vt
open _root_.Go.Proofs.Tryz Go Go.RowKit ib jr mt im sp
section
variable {IC:ch.bE} (HI:ch.Impl IC) {q:Nat} {was:ch.CH}
include HI
end
end Go.Proofs.YtdagdllomphidaaGreatDoor.vt
namespace Go.Proofs.YtdagdllomphidaaGreatDoor.vt
open _root_.Go.Proofs.Tryz Go Go.RowKit ib jr mt im sp
section
variable {IV:yn} {IC:ch.bE} (H:yx IV) (HI:ch.Impl IC) {w w':World} {N B v pd p q:Nat} {c:ch.CH}
include H HI
end
end Go.Proofs.YtdagdllomphidaaGreatDoor.vt
namespace Go.Proofs.YtdagdllomphidaaGreatDoor.vt
open _root_.Go.Proofs.Tryz Go Go.RowKit ib jr mt im sp
section
variable {IV:yn} {IC:ch.bE} (H:yx IV) (HC:ch.Ops IC) {w w':World} {B v pd p N:Nat} {X:Nat→Prop} {s:Tri}
include H HC
theorem qiC{t:Tg}{b:Nat}{m:Mt}(h:V3 IV IC w B X v pd p s)(hB:B≤w.heap.size)(hj:RJ N t s.d)(hf:s.d.qp=0)(hr:qO b N t m):Calls prog 12 #[.pointer (some ⟨pd,0,none⟩)] w
      fun e w'=>∃v' d',e=.returned (.tuple #[.pointer (some ⟨v',0,none⟩),.int .i64 0])∧V3 IV IC w' B X v' pd p ⟨d',m,s.c,false⟩∧JJ N t d'∧d'.qp=0∧Ke B X w w':=by
 obtain⟨o1,o2,o3,h1,h7,h8,h9,h10⟩:=h;refine(H.nN h1.dk (H.tab h1.is) (h1.dj gN (.inr rfl)) hj hf hr).mono ?_;rintro e w' ⟨v',d',q1,q2,rfl,hv,hj',hf',xX,g1,g2⟩;refine⟨v',d',rfl,⟨q1,q2,o3,hv,HC.keep h7 (fun j hj=>xX.block j (HC.low h7 j hj) (fun ho=>(h8 j (.inr ho)).2.1 hj)) xX.size,fun j hj=>?_,h9,fun j hj=>Nat.lt_of_lt_of_le (h10.1 j hj) xX.size,h10.2⟩,hj',hf',xX.mono fun j hj=>⟨(h8 j (.inr hj)).1,(h8 j (.inr hj)).2.2⟩⟩;have hnew:w.heap.size≤j→B≤j∧¬ o3 j∧¬ X j:=fun h=>⟨by omega,fun ho=>by have:=HC.low h7 j ho;omega,fun hx=>by have:=h10.1 j hx;omega⟩;rcases hj with hj|hj
 ·exact hnew (g1 j hj)
 ·rcases g2 j hj with h|h
  ·exact h8 j (.inr h)
  ·exact hnew h
end
end Go.Proofs.YtdagdllomphidaaGreatDoor.vt
namespace Go.Proofs.YtdagdllomphidaaGreatDoor.vt
open _root_.Go.Proofs.Tryz Go Go.RowKit ib jr mt im sp
def PtS (IV:yn)(IC:ch.bE)(B:Nat)(X:Nat→Prop)(vp pd p:Nat)(c:ch.CH)(Q:DD→Mt→Prop)(W0:World)(q:Bool)(W:World):Prop :=
 Ke B X W0 W∧(q=false→Below W0.heap.size W0 W)∧(q=true→∃d m,V3 IV IC W B X vp pd p ⟨d,m,c,false⟩∧Q d m)
def iG (vp bA cA o6 c6:Nat)(y1 y2 i0 i1:Int):Nat→Value→World→Prop
 | 0,v,_=>v=.pointer (some ⟨vp,0,none⟩)
 | 1,v,_=>v=.agg #[.int .u64 y1,.int .u64 y2,.int .u64 2,.int .u64 1,.int .i64 i1,.int .i64 8,.slice none 0 0]
 | 2,v,_=>v=.slice (some ⟨bA,0,none⟩) 8 cA
 | 3,v,_=>v=.int .i64 i0
 | 4,v,_=>v=.int .i64 i0
 | 5,v,_=>v=.int .i64 i1
 | 6,v,_=>v=.slice (some ⟨bA,o6,none⟩) 1 c6
 | 7,v,_=>v=.int .i64 0
 | 8,v,_=>v=.bool false
 | _,_,_=>True
theorem qeG(vp bA cA o6 c6:Nat)(y1 y2 i0 i1:Int)(i:Nat)(v:Value)(w w':World)(hi:i<9)(h:iG vp bA cA o6 c6 y1 y2 i0 i1 i v w)(_:(fun(_ _:World)=>True) w w'):iG vp bA cA o6 c6 y1 y2 i0 i1 i v w':=by
 match i,hi,h with
 | 0,_,h | 1,_,h | 2,_,h | 3,_,h | 4,_,h | 5,_,h | 6,_,h | 7,_,h | 8,_,h=>exact h
 | j+9,hi,_=>exact absurd hi (by omega)
def z8 (z:Nat→UInt8):Array Value:=#[.int .u8 ((z 0).toNat:Int),.int .u8 ((z 1).toNat:Int),.int .u8 ((z 2).toNat:Int),.int .u8 ((z 3).toNat:Int),.int .u8 ((z 4).toNat:Int),.int .u8 ((z 5).toNat:Int),.int .u8 ((z 6).toNat:Int),.int .u8 ((z 7).toNat:Int)]
theorem qu8(z:Nat→UInt8)(k:Nat)(h:k<8):(z8 z)[k]?=some (.int .u8 ((z k).toNat:Int)):=by
 match k,h with
 | 0,_=>rfl
 | 1,_=>rfl
 | 2,_=>rfl
 | 3,_=>rfl
 | 4,_=>rfl
 | 5,_=>rfl
 | 6,_=>rfl
 | 7,_=>rfl
def Sz (z:Nat→UInt8)(i:Nat):Bt:=vB (UInt8.ofNat ((z i).toNat%200))
theorem qcv(z:Nat→UInt8)(i:Nat):(Sz z i).length=32:=oy (by rw[UInt8.toNat_ofNat'];omega)
def q3r (IV:yn)(IC:ch.bE)(wa:World)(pd p v:Nat)(i:Value)(wr:World):Prop:=∃(k:Nat) (c:ch.CH),k≤8∧i=.int .i64 (k:Int)∧VC IV IC 400 wr wa.heap.size v pd p c∧Few k c∧Below wa.heap.size wa wr
def qu9 (z:Nat→UInt8)(wb:World)(v i:Value)(wr:World):Prop:=∃k:Nat,k≤8∧i=.int .i64 (k:Int)∧ch.kr wr wb.heap.size v (zf (Sz z) k)∧Below wb.heap.size wb wr
def wh (y1 y2 n:Int):Array Value:=#[.int .u64 y1,.int .u64 y2,.int .u64 2,.int .u64 1,.int .i64 n,.int .i64 8,.slice none 0 0]
structure P3(IV:yn)(IC:ch.bE)(S:Nat→Bt)(B pd p TB bA:Nat)(c:ch.CH)(k:Nat)(vp:Nat)(wr:World):Prop where
 st:∃t d m,V3 IV IC wr B (fun j=>j=TB∨j=bA) vp pd p ⟨d,m,c,false⟩∧qO 8 400 t m∧JJ 400 t d∧d.qp=0∧(k<8→Part c t m (zm c.base (zf S k)) k)∧(k=8→zh t m=⟨zm c.base (zf S 8),c.qa++[⟨(2,1),zm c.base (zf S 8),false⟩]⟩∧m.tok=zD)
 tb:qf wr TB 59 (wh (c.last.1:Int) (c.last.2:Int) (k:Int))
 all:ch.vU wr (some ⟨bA,0,none⟩) (zf S 8)
def quA (IV:yn)(IC:ch.bE)(S:Nat→Bt)(B pd p TB bA:Nat)(c:ch.CH)(wb:World)(v i:Value)(wr:World):Prop :=
 ∃k vp:Nat,k≤8∧i=.int .i64 (k:Int)∧v=.pointer (some ⟨vp,0,none⟩)∧P3 IV IC S B pd p TB bA c k vp wr∧Below B wb wr
section
variable {IV:yn} {IC:ch.bE} {S:Nat→Bt} {B pd p TB bA k vp:Nat} {c:ch.CH} {w w':World}
theorem P3.below(H:yx IV)(HC:ch.Ops IC)(h:P3 IV IC S B pd p TB bA c k vp w)(hb:Below w.heap.size w w'):P3 IV IC S B pd p TB bA c k vp w':=by
 obtain⟨t,d,m,h1,h2⟩:=h.st;exact⟨⟨t,d,m,h1.below H HC hb,h2⟩,h.tb.below hb,h.all.below hb⟩
def PaQ (S:Nat→Bt)(c:ch.CH)(k:Nat)(d:DD)(m:Mt):Prop:=∃t,qO 8 400 t m∧JJ 400 t d∧d.qp=0∧(k<8→Part c t m (zm c.base (zf S k)) k)∧(k=8→zh t m=⟨zm c.base (zf S 8),c.qa++[⟨(2,1),zm c.base (zf S 8),false⟩]⟩∧m.tok=zD)
theorem qeH{t:Tg}{d d':DD}{m m':Mt}{r:Int}{l':Bool}{n:Nat}(hr:qO 8 400 t m)(hj:JJ 400 t d)(hf:d.qp=0)(hw:Few n c)(hn:n≤19)(hS:∀i,(S i).length=32)(hk:k<8)(hp:Part c t m (zm c.base (zf S k)) k)
    (hq:yo 400 t d m (qV 400 m ⟨c.last,(2,1),(k:Int)+1,8⟩ [((k:Int),S k)]) r d' m' l'):r=0∧l'=false∧PaQ S c (k+1) d' m':=by
 have hlg:qw m=c.last:=by rw[← kI t,hp.zh]
 rw[← hlg]at hq;obtain⟨P,hP⟩:=QE (qV 400 m ⟨qw m,(2,1),(k:Int)+1,8⟩ [((k:Int),S k)]);rw[hP]at hq;have go:∀ {c2:ch.CH},P.code=0→Does 8 400 t m P c2→((k+1<8→Part c (over t (qz t P.m P.ws)) P.m (zm c.base (zf S (k+1))) (k+1))∧(k+1=8→zh (over t (qz t P.m P.ws)) P.m=⟨zm c.base (zf S 8),c.qa++[⟨(2,1),zm c.base (zf S 8),false⟩]⟩∧P.m.tok=zD))→r=0∧l'=false∧PaQ S c (k+1) d' m':=by
  intro c2 hc hd h2;rcases hq with⟨h0,_⟩|⟨_,rfl,hj',rfl,rfl,hf',_⟩|⟨_,_,_,_,h0,_⟩
  ·exact absurd hc h0
  ·exact⟨rfl,rfl,_,hr.next hd.ok hd.ws,hj',hf' hf,h2.1,h2.2⟩
  ·exact absurd hf h0
 by_cases h7:k<7
 ·obtain⟨g1,g2,g3⟩:=qlo hr (by decide) hw hn hp S hS h7 hP;rw[← sF,← gU]at g3;exact go g1 g2 ⟨fun _=>g3,fun h=>by omega⟩
 ·obtain rfl:k=7:=by omega
  obtain⟨g1,g2,g3⟩:=qlp hr (by decide) hw hn hp S hS hP;have e:zm (zm c.base (zf S 7)) [((7:Int),S 7)]=zm c.base (zf S 8):=by
   rw[← sF];exact congrArg _ (gU S 7).symm
  rw[e]at g2;exact go g1 g2 ⟨fun h=>by omega,fun _=>⟨g2.zh,g3⟩⟩
theorem qpI(h:ch.vU w (some ⟨bA,0,none⟩) (zf S 8))(hk:k<8):ch.vU w (some ⟨bA,k*2,none⟩) [((k:Int),S k)]:=by
 intro i hi;obtain rfl:i=0:=by simpa using hi
 obtain⟨b,o,h1,h2,h3,h4,h5⟩:=h k (by rw[zg];exact hk);cases h1;have e:(zf S 8)[k]'(by rw[zg];exact hk)=((k:Int),S k):=by simp[zf]
 rw[e]at h3 h4 h5;rw[Nat.zero_add]at h3 h4;exact⟨bA,k*2,rfl,h2,by simpa using h3,by simpa using h4,h5⟩
end
theorem nC {IV:yn}{IC:ch.bE}(H:yx IV)(HI:ch.Impl IC)(HW:∀w,xK w→Calls prog 8 #[] w (qff w))(A:Option Addr)(cp:Nat)(l:List DoP)(z:Nat→UInt8)(cut:Nat)(hcut:cut<256)(w:World)(hT:qu6 w A l)(hl:l.length≤9223372036854775807)(ht:xK w) :
    Calls prog 5 #[.slice A l.length cp,.agg (z8 z),.int .u8 (cut:Int)] w (qff w):=by
 obtain⟨i0,hi,hz0,hz1,hz2⟩:=info_parts ch.qbR;have HT:=QH hT;have HC:=HI.toOps;clear hT;have HBA:=QH ((Below.refl w.heap.size w).alloc (Nat.le_refl _) (.cells (z8 z) 51));have HLB:=QH (qf.new w 51 (z8 z));obtain⟨wa,hwa⟩:=QE (w.alloc (.cells (z8 z) 51));rw[hwa]at HBA HLB;have dF:Hid (xK wa):=QH (xd ht HBA.out (zR ht));clear ht;have HTA:=QH HT.out;have HLA:Hid (w.heap.size<wa.heap.size):=HLB.out.lt;obtain⟨LB,hLB⟩:=QE w.heap.size;have q3s:=QH hLB;rw[hLB]at HLB;unfold z8 at hwa ⊢;go_enter func5,ntmps5;go_upto_region 1 with fail;try rw[hwa]
 try rw[hLB]
 clear hwa hLB;go_wp2_with fail;refine(HW wa dF.out).mono ?_;rintro e W0 ⟨rfl,hb0⟩;have xu:=QH hb0;clear hb0;go_wp2_with fail;refine(qp2 H 8 (by decide) (by decide) W0 (xd dF.out xu.out (zR dF.out))).mono ?_;rintro e W1 ⟨v,pd,t,d,o1,o2,rfl,hv,hj,hr,hf,hb1,ho⟩;have qR:=QH (qc xu.out hb1);have HN1:Hid (∀(W2:World) (p:Nat) (o3:Nat→Prop),IC o3 W2 p (ch.jW 8)→Below W1.heap.size W1 W2→(∀j,o3 j→W1.heap.size≤j)→VC IV IC 400 W2 wa.heap.size v pd p (ch.jW 8)):=fun W2 p o3 hc hb ho3 =>
  qxo (w:=wa) H HC hv hj hr hf (fun j hj=>Nat.le_trans xu.out.size (ho j hj)) hc hb qR.out.size (zR dF.out) ho3
 clear hv hj hr hf hb1 ho xu;go_wp2_with fail;refine(HI.uM 8 W1 (by decide) (by decide)).mono ?_;rintro e W2 ⟨p,o3,rfl,hc,hb2,ho3⟩;have HV:=QH (HN1.out W2 p o3 hc hb2 ho3);have qB:=QH (qc qR.out hb2);clear hc hb2 ho3 HN1 qR;go_wp2_with fail;go_loopw [10] (fun i wr=>q3r IV IC wa pd p v i wr) (fun i _=>9-(intOf i).toNat);case atStart=>exact⟨0,_,by omega,rfl,HV.out,⟨by simp[ch.jW],fun s hs=>by simp[ch.jW]at hs⟩,qB.out⟩
 case round =>
  clear HV qB;obtain⟨k,c,hk,rfl,hv,si,hb⟩:=hrel;have HV:=QH hv;have HB:=QH hb;have HFW:=QH si;have HM:Hid (wa.heap.size≤wr.heap.size):=hb.size;clear hv hb si;by_cases hgo:k<l.length∧k<8
  ·obtain⟨hlt,h12⟩:=hgo;have jG:(k:Int)<(l.length:Int):=by omega
   have zf3:(k:Int)<8:=by omega
   obtain⟨b,o,rfl,qpJ,g0,g1,g2,sR,hgn⟩:=HT.out k hlt;have bL:Below w.heap.size w wr:=qc HBA.out HB.out;have c0:wr.cell? ⟨b,o+k*3,none⟩=some (.int .u8 (l[k].k:Int)):=by rw[bL.cell (p:=⟨b,o+k*3,none⟩) qpJ];exact g0
   have c1:wr.cell? ⟨b,o+k*3+1,none⟩=some (.int .u8 (l[k].n:Int)):=by rw[bL.cell (p:=⟨b,o+k*3+1,none⟩) qpJ];exact g1
   have c2:wr.cell? ⟨b,o+k*3+2,none⟩=some (.int .u8 (l[k].z.toNat:Int)):=by rw[bL.cell (p:=⟨b,o+k*3+2,none⟩) qpJ];exact g2
   have l0:b<wr.heap.size:=Nat.lt_of_lt_of_le qpJ bL.size;have q8F:=wrap_u64 (k+1) (by omega);rw[Int.natCast_add]at q8F;have bP:=qsO H HC HV.out HM.out (by decide) l[k] (k+1) sR hgn (by omega);have q3t:=QH (qpF HFW.out l[k] (k+1));unfold j9 at bP;obtain⟨er,hs⟩:=QE ((xf c l[k] (k+1)).2);obtain⟨c',hc'⟩:=QE ((xf c l[k] (k+1)).1);rw[hs,hc']at bP;rw[hc']at q3t;clear hs hc' g0 g1 g2 qpJ bL;go_wp2_with fail;refine bP.mono ?_;clear bP c0 c1 c2 l0;rintro e W3 ⟨rfl,hv3,hb3⟩;have HV3:=QH hv3;have qY:=QH (HB.out.trans hb3);clear hv3 hb3 HV HB HM;go_wp2_with fail;go_roundw;case rel=>exact⟨k+1,c',by omega,by go_num,HV3.out,q3t.out,qY.out⟩
   case measure=>simp[intOf];omega
  ·have quB:((k:Int)<(l.length:Int)∧¬ (k:Int)<8)∨¬ (k:Int)<(l.length:Int):=by omega
   clear hgo;have HCO:=QH quB;clear quB;obtain⟨t,d,m,hv3,hvr,hjj,hfu,dV,hsm⟩:=HV.out;have HVR:=QH hvr;have HJ:=QH hjj;have HF:=QH hfu;have iB:=QH dV;have HSM:=QH hsm;have HV3:=QH hv3;have bF:=hvr.ok.few;have HLG:Hid (qw m=c.last):=by unfold Hid;rw[← kI t,hsm]
   have HL0:=QH (fun h=>bn (m:=m) h);have HLK:=QH (fun k h hk=>qe9 (m:=m) k h hk);have HGL:=QH (qnu hvr.ok);have qsZ:Hid (Few 8 c):=⟨by have:=HFW.out.n;omega,HFW.out.ep⟩;have q3u:Hid (qf wr LB 51 (z8 z)):=HLB.out.of_block (HB.out.block LB (by rw[← q3s.out];exact HLA.out));have kV:=QH HB.out;have HMW:=QH HM.out;clear hv3 hvr hjj hfu dV hsm HV HB HM HFW;obtain⟨ww,hww⟩:∃x,x=wr:=⟨_,rfl⟩;subst hww;rcases HCO.out with⟨hk0,zK⟩|hk0;all_goals
    go_wp2_with fail;clear hk0;try clear zK
    clear HCO;refine(qi8 H HV3.out).mono ?_;rintro e W4 ⟨A2,cc2,rfl,hg4,_,hb4⟩;have bK:=QH (HV3.out.below H HC hb4);have xQ:=QH (qc kV.out hb4);have q3v:=QH (q3u.out.below hb4);have HGD:=QH hg4;have HM5:Hid (wa.heap.size≤W4.heap.size):=xQ.out.size;clear hg4 hb4 HV3 kV q3u HMW;go_wp2_with fail;refine(ch.zF 2 1 _).mono ?_;rintro e W5 ⟨rfl,hb5⟩;have bC:=QH (bK.out.below H HC hb5);have jy:=QH (qc xQ.out hb5);have q3w:=QH (q3v.out.below hb5);have q3x:=QH (HGD.out.below hb5);have HM6:Hid (wa.heap.size≤W5.heap.size):=jy.out.size;clear hb5 bK xQ q3v HGD HM5;unfold ch.gv;go_upto_region 13 with fail;have gY:=QH ((Below.refl W5.heap.size W5).alloc (Nat.le_refl _) (.cells (wh 0 0 0) 59));have oF:=QH (qf.new W5 59 (wh 0 0 0));have nI:Hid (V3 IV IC (W5.alloc (.cells (wh 0 0 0) 59)) wa.heap.size (fun j=>j=W5.heap.size) v pd p ⟨d,m,c,false⟩):=bC.out.more H HC gY.out fun j hj=>.inr ⟨by rw[hj];exact Nat.le_refl _,by rw[hj];simp⟩;have lW:=QH (qc jy.out gY.out);have qlq:=QH (q3w.out.below gY.out);have qta:=QH (q3x.out.below gY.out);obtain⟨W6,hW6⟩:=QE (W5.alloc (.cells (wh 0 0 0) 59));rw[hW6]at oF nI lW qlq qta;clear gY bC jy q3w q3x;obtain⟨TB,hTB⟩:=QE W5.heap.size;rw[hTB]at oF nI HM6;have HLT:Hid (LB<TB):=by unfold Hid;have:=q3s.out;have:=HLA.out;have:=HM6.out;omega
    unfold wh at hW6;rw[hW6];try rw[hTB]
    clear hW6 hTB;obtain⟨y1,hy1⟩:=QE (c.last.1:Int);obtain⟨y2,hy2⟩:=QE (c.last.2:Int);have nz:=QH hy1;have nA:=QH hy2;have eX:(m.qa.map (·.g)).length=m.qa.length:=List.length_map _;clear hy1 hy2;by_cases hz:m.qa.length=0
    ·have hlz:(m.qa.length:Int)=0:=by omega
     have qx8:Hid (y1=0∧y2=0):=by
      have hl0:=HL0.out hz;rw[HLG.out]at hl0;exact⟨by rw[← nz.out,hl0];rfl,by rw[← nA.out,hl0];rfl⟩
     have qlr:Hid (qf W6 TB 59 (wh y1 y2 0)):=by unfold Hid;rw[qx8.out.1,qx8.out.2];exact oF.out
     have iP:=QH nI.out;have HB9:=QH lW.out;have qls:=QH qlq.out;rw[hz];clear hlz eX hz oF nI lW qlq qta qx8;obtain⟨W9,hW9⟩:∃x,x=W6:=⟨_,rfl⟩;subst hW9;go_upto_region 15 with fail;go_wp2_with fail;go_loopw [13,14] (fun u i wr=>qu9 z W9 u i wr) (fun _ i _=>9-(intOf i).toNat);case atStart=>exact⟨0,by omega,rfl,World.ownsRow_nil _ _ _ _,Below.refl _ _⟩
     case round =>
      obtain⟨q,hq,rfl,ho,hb⟩:=hrel;have HO:=QH ho;have HB:=QH hb;have qhv:=QH (qls.out.below hb);have HAB:Hid (∀x∈zf (Sz z) q,yA x.1):=fun x hx=>by
       simp only[zf,List.mem_map,List.mem_range]at hx;obtain⟨i,hi,rfl⟩:=hx;unfold yA;dsimp only;omega
      obtain⟨A5,c5,hv5,hl5,hn5⟩:=HO.out.rD HAB.out;rw[zg]at hv5;have gK:=QH hl5;have dC:=QH hn5;have HOL:Hid (wr.ownsRow W9.heap.size 62 2 u13 q (ch.yY (zf (Sz z) q))):=by
       have h:=HO.out;unfold ch.kr at h;rw[zg]at h;exact h
      subst hv5;clear ho hb hl5 hn5 HO;by_cases hq8:q<8
      ·have hqi:(q:Int)<8:=by omega
       have cz:wr.cell? ⟨LB,q,none⟩=some (.int .u8 ((z q).toNat:Int)):=by rw[qhv.out.cell q];exact qu8 z q hq8
       have hlb:=qhv.out.lt;obtain⟨a,ha⟩:=QE (UInt8.ofNat ((z q).toNat%200):UInt8);obtain⟨zt,hzt⟩:=QE ((z q).toNat:Int);have hzb:=(z q).toNat_lt;have haq:zt.tmod 200=(a.toNat:Int):=by
        rw[← hzt,← ha,Int.tmod_eq_emod_of_nonneg (by omega),UInt8.toNat_ofNat'];omega
       have qp5:zt%200=(a.toNat:Int):=by
        rw[← hzt,← ha,UInt8.toNat_ofNat'];omega
       have HSE:Hid (Sz z q=vB a):=by unfold Hid Sz;rw[ha]
       have kg:=QH (gU (Sz z) q);rw[hzt]at cz;clear ha hzt;have hdt:=ch.vk a wr;go_wp2_with fail;refine hdt.mono ?_;rintro e W10 ⟨rfl,qhw⟩;obtain⟨SS,hSS⟩:=QE (str (vB a));have HSS:=QH hSS;have tG:∀u∈([Value.int .i64 (q:Int),.string SS]:List Value),u.oneCell'=true:=by
        rw[← hSS];exact ch.fT ((q:Int),vB a)
       rw[hSS];have qpK:Hid ((W10.alloc (.cells #[.int .i64 (q:Int),.string SS] 62)).ownsRow W9.heap.size 62 2 (.slice A5 q c5) q (ch.yY (zf (Sz z) q))):=by
        refine World.ownsRow.alloc ?_ _;exact zB HOL.out (fun k hk=>qhw.block k (HOL.out.lt k hk).2)
       have HNE:=QH (ch.fU W10 62 (.int .i64 (q:Int)) (.string SS));have nO:=QH (qc (qc HB.out qhw) ((Below.refl _ W10).alloc (Nat.le_refl _) (.cells #[.int .i64 (q:Int),.string SS] 62)));clear hdt hSS qhw cz hlb haq qp5 hzb HOL;go_wp2_with (at_builtin;refine wpList_append_own _ rfl (.tmp 65) (.tmp 73) 60 rfl W9.heap.size 62 i0 (.agg #[.int .i64 0,.string ByteArray.empty]) 2 24 underlying60 hi hz0 hz1 hz2 rfl (by decide) _ q _ rfl qpK.out ⟨W10.heap.size,0,none⟩ 1 1 [.int .i64 (q:Int),.string SS] rfl rfl HNE.out tG ?_ ?_ nO.out.size ?_)
       ·unfold maxLen;omega
       ·omega
       ·intro v' w1 hown hgrow _;have rM:=QH (nO.out.grown hgrow nO.out.size (fun j hj=>(qpK.out.lt j hj).1));have HOS:Hid (ch.kr w1 W9.heap.size v' (zf (Sz z) (q+1))):=by
         unfold Hid;rw[kg.out];refine ch.kr.snoc (x:=((q:Int),Sz z q)) ?_;rw[zg,HSE.out,HSS.out];exact hown
        clear hown hgrow;go_wp2_with fail;go_roundw;case rel=>exact⟨q+1,by omega,by go_num,HOS.out,rM.out⟩
        case measure=>simp[intOf];omega
      ·have hqi:¬ (q:Int)<8:=by omega
       obtain rfl:q=8:=by omega
       obtain⟨b5,rfl,hb5,hc5⟩:∃b5,A5=some ⟨b5,0,none⟩∧(W9.heap.size≤b5∧b5<wr.heap.size)∧8≤c5:=by
        rcases HOL.out.2 with⟨h,h0⟩|⟨g,cap,cur,h1,h2,h3,h4,_⟩
        ·exact absurd h0 (by decide)
        ·simp only[Value.slice.injEq]at h1;exact⟨g,h1.1,⟨h2,(Array.getElem?_eq_some_iff.1 h3).1⟩,by rw[h1.2.2];exact h4⟩
       have HC5:=QH hc5;have qpL:=qt9 HC iP.out;have HL8:Hid (c.live.length=8∧c.base.length=8):=by
        have h1:c.live.length=8:=by rw[← HSM.out];show(volume t m.live).length=8;rw[xw];exact HVR.out.ok.len
        exact⟨h1,by rw[qpL.qby.1];exact h1⟩
       have nJ:=iP.out.below H HC HB.out;have HWL:Hid (W9.heap.size≤wr.heap.size):=HB.out.size;have HX:Hid (V3 IV IC wr wa.heap.size (fun j=>j=TB∨j=b5) v pd p ⟨d,m,c,false⟩):=iP.out.more H HC HB.out fun j hj=>by
        rcases hj with h|h
        ·exact .inl h
        ·exact .inr ⟨by rw[h];exact hb5.1,by rw[h];exact hb5.2⟩
       have HP3:Hid (P3 IV IC (Sz z) wa.heap.size pd p TB b5 c 0 v wr):=⟨⟨t,d,m,HX.out,HVR.out,HJ.out,HF.out,fun _=>qaN HSM.out iB.out,fun h=>by omega⟩,by rw[nz.out,nA.out];exact qlr.out.below HB.out,gK.out⟩;have qx9:=QH (qc HB9.out HB.out);obtain⟨w3,hw3⟩:∃x,x=wr:=⟨_,rfl⟩;subst hw3;clear nJ HX iP qlr HB dC gK HOL qhv HB9 qls HAB;clear qpL hc5 hb5;go_wp2_with fail;go_loopw [8,15,16,17] (fun u i _ _ wr=>quA IV IC (Sz z) wa.heap.size pd p TB b5 c wa u i wr) (fun _ i _ _ _=>9-(intOf i).toNat);case atStart=>exact⟨0,v,by omega,rfl,rfl,HP3.out,qx9.out⟩
       case round =>
        obtain⟨n,vp,hn,rfl,rfl,h3,hbr⟩:=hrel;have HP:=QH h3;have HBR:=QH hbr;clear h3 hbr;by_cases hn8:n<8
        ·have hni:(n:Int)<8:=by omega
         have htb:=HP.out.tb;unfold wh at htb;have f4:=htb.frozen 4;have q4:=htb.cell 4;have hlt:=htb.lt;simp only[QA,QB,QC]at q4;have qhx:=htb.qo 4 (.int .i64 ((n:Int)+1));simp only[List.setIfInBounds_toArray,List.set_cons_zero,List.set_cons_succ]at qhx;have bO:Hid (qy (fun j=>j=TB) wr (wr.setCell ⟨TB,4,none⟩ (.int .i64 ((n:Int)+1)))):=(qy.refl (fun j=>j=TB) wr).setCell ⟨TB,4,none⟩ (.int .i64 ((n:Int)+1)) (.inl rfl);obtain⟨t3,d3,m3,hv3,hr3,hj3,hf3,hp3,_⟩:=HP.out.st;have HV4:=QH (hv3.turn H HC (bO.out.mono fun j hj=>.inl hj));have wS:=QH qhx;have HCB:Hid (b5<wr.heap.size∧b5≠TB):=⟨by obtain⟨x1,x2,x3,x4,_⟩:=HP.out.all 0 (by rw[zg];omega);cases x3;exact x4,fun e=>by
          obtain⟨x1,x2,x3,x4,x5,_⟩:=HP.out.all 0 (by rw[zg];omega);cases x3;rw[e]at x5;rw[htb.cell]at x5;simp at x5⟩
         have sG:Hid (ch.vU (wr.setCell ⟨TB,4,none⟩ (.int .i64 ((n:Int)+1))) (some ⟨b5,0,none⟩) (zf (Sz z) 8)):=yT HP.out.all (fun b o e=>by cases e;exact bO.out.block b5 HCB.out.1 HCB.out.2) bO.out.size;have zP:Hid (Below wa.heap.size wa (wr.setCell ⟨TB,4,none⟩ (.int .i64 ((n:Int)+1)))):=HBR.out.setCell (p:=⟨TB,4,none⟩) HM6.out _;have w6:=QH hr3;have HJ3:=QH hj3;have HF3:=QH hf3;have tA:=QH (hp3 hn8);obtain⟨w4,hw4⟩:=QE (wr.setCell ⟨TB,4,none⟩ (.int .i64 ((n:Int)+1)));rw[hw4]at HV4 wS sG zP;clear qhx bO hv3 hr3 hj3 hf3 hp3;go_upto_region 24 with fail;try rw[hw4]
         clear hw4 htb f4 q4 hlt HP HBR;obtain⟨i1,hi1⟩:=QE ((n:Int)+1);have eY:=QH hi1;have HW1:Hid (IntKind.i64.wrap ((n:Int)+1)=i1):=by unfold Hid;rw[IntWalk.i64_in _ (by omega)];exact hi1
         have aX:Hid (∀W,(Instr.sliceAt 60 (.slice (some ⟨b5,0,none⟩) 8 c5) (some (.int .i64 (n:Int))) (some (.int .i64 i1)) none).run prog W=.ok (.slice (some ⟨b5,n*2,none⟩) 1 (c5-n)) W):=fun W=>by
          have h5:=HC5.out;have hu:=underlying60;have he:prog.elem 60=62:=by kernel_rfl
          have hs:(sizeOf 62).run prog W=.ok 2 W:=by simp[go_sem,sizeOf62]
          rw[run_sliceAt_slice W _ _ _ _ _ (by rw[he];exact hu),run_slice_lh W _ _ _ _ (by rw[he];exact hu) _ _ _ _ (by omega) (by omega) (by omega),he,hs,← hi1];have e1:((n:Int)).toNat=n:=Int.toNat_natCast n;have e2:((n:Int)+1).toNat=n+1:=by omega
          simp only[Result.andThen,sliced,e1,e2];rw[if_neg (by omega),show n+1-n=1 by omega];simp[Addr.add] <;> omega
         have HST:Hid (∀W,Below w4.heap.size w4 W→Calls prog 24 #[.pointer (some ⟨vp,0,none⟩),.agg #[.int .u64 y1,.int .u64 y2,.int .u64 2,.int .u64 1,.int .i64 i1,.int .i64 8,.slice none 0 0],.slice (some ⟨b5,n*2,none⟩) 1 (c5-n)] W (fun x W'=>x=.returned (.int .i64 0)∧PtS IV IC wa.heap.size (fun j=>j=TB∨j=b5) vp pd p c (PaQ (Sz z) c (n+1)) w4 true W')):=fun W hW=>by
          have hB:wa.heap.size≤W.heap.size:=Nat.le_trans zP.out.size hW.size;refine(kK HC (HV4.out.below H HC hW) hB (fun o1 o2 ho hx=>by
           have h5:=H.stage ⟨c.last,(2,1),(n:Int)+1,8⟩ (some ⟨b5,n*2,none⟩) (c5-n) [((n:Int),Sz z n)] ho HJ3.out (by have h:=HF3.out;show(0:Int)≤d3.qp;rw[h];decide) w6.out ⟨by rw[← HLG.out];exact HGL.out,(show zZ (2,1)from⟨by decide,by decide⟩),by unfold yA;dsimp only;omega,by unfold yA;dsimp only;omega⟩ (qpI (sG.out.below hW) hn8) (by simp) (fun b o e=>by
            cases e;exact⟨fun hh=>(hx b5 (.inl hh)).2 (.inr rfl),fun hh=>(hx b5 (.inr hh)).2 (.inr rfl)⟩)
           unfold dc at h5;dsimp only at h5;rw[nz.out,nA.out,eY.out]at h5;exact h5)).mono ?_
          rintro e W' ⟨r,d',m',l',rfl,hv',um,hq⟩;rw[← eY.out]at hq;obtain⟨rfl,rfl,hpa⟩:=qeH w6.out HJ3.out HF3.out qsZ.out (by decide) (qcv z) hn8 tA.out hq;exact⟨rfl,⟨(Ke.of_below hW).trans um,fun h=>(by cases h),fun _=>⟨d',m',hv',hpa⟩⟩⟩
         have aJ:Hid (qf w4 TB 59 #[.int .u64 y1,.int .u64 y2,.int .u64 2,.int .u64 1,.int .i64 i1,.int .i64 8,.slice none 0 0]):=by unfold Hid;rw[← eY.out,← nz.out,← nA.out];exact wS.out
         rw[hi1];clear hi1 wS w6 HJ3 HF3 tA HV4;refine xJ (by kernel_rfl) [82,83,84,85,86,87,88,89,90] (by kernel_rfl) (fun L vs W=>PtS IV IC wa.heap.size (fun j=>j=TB∨j=b5) vp pd p c (PaQ (Sz z) c (n+1)) w4 (L 7) W∧∀i,L i=true→i<9→iG vp b5 c5 (n*2) (c5-n) y1 y2 (n:Int) i1 i (vs i) W) ⟨⟨Ke.of_below (ud (Below.refl _ _) 1),fun _=>ud (Below.refl _ _) 1,fun h=>by cases h⟩,fun i hi=>by cases hi⟩ ?_ ?_ ?_
         ·intro i o L vs ρ W ho eR qA hρ hgd hI;obtain⟨hS,vZ⟩:=hI;have hG:∀j,L j=true→iG vp b5 c5 (n*2) (c5-n) y1 y2 (n:Int) i1 j (vs j) W:=fun j hj=>by
           by_cases dQ:j<9
           ·exact vZ j hj dQ
           ·match j,dQ with
            | j+9,_=>exact trivial
          have qf1:i<9:=(Array.getElem?_eq_some_iff.1 ho).1;have hc:=hρ.const;have hfn:=hρ.fn;have next:∀v W',(fun(_ _:World)=>True) W W'→PtS IV IC wa.heap.size (fun j=>j=TB∨j=b5) vp pd p c (PaQ (Sz z) c (n+1)) w4 (qN L i 7) W'→iG vp b5 c5 (n*2) (c5-n) y1 y2 (n:Int) i1 i v W'→PtS IV IC wa.heap.size (fun j=>j=TB∨j=b5) vp pd p c (PaQ (Sz z) c (n+1)) w4 (qN L i 7) W'∧∀j,qN L i j=true→j<9→iG vp b5 c5 (n*2) (c5-n) y1 y2 (n:Int) i1 j (zX vs i v j) W':=fun v W' h1 h0 h2=>by
           refine⟨h0,fun j hj dQ=>?_⟩;by_cases vn:j=i
           ·subst vn;simpa[zX]using h2
           ·simp only[qN,if_neg vn]at hj;simpa[zX,vn]using qeG vp b5 c5 (n*2) (c5-n) y1 y2 (n:Int) i1 j _ W W' dQ (vZ j hj dQ) h1
          have tJ:=aJ.out.of_block (hS.1.block aJ.out.lt (.inl (.inl rfl)));have z0:=tJ.cell 0;have z1:=tJ.cell 1;have z2:=tJ.cell 2;have z3:=tJ.cell 3;have z4:=tJ.cell 4;have z5:=tJ.cell 5;have z6:=tJ.cell 6;have zl:=tJ.lt;simp only[QA,QB,QC]at z0 z1 z2 z3 z4 z5 z6;rcases i with _|_|_|_|_|_|_|_|_|i;all_goals (first|omega|skip)
          all_goals simp only[QA,QB,QC,Option.some.injEq]at ho
          all_goals subst ho
          ·have o8:ρ (.tmp 8)=.pointer (some ⟨vp,0,none⟩):=hρ.out 8 rfl;exact q9 (w':=W) (by unfold execOp;simp only[o8,hc];go_simp) (next _ _ trivial (by simpa only[qN,Nat.reduceEqDiff,if_false,if_true,reduceIte]using hS) rfl)
          ·have o12:ρ (.tmp 12)=.pointer (some ⟨TB,0,none⟩):=hρ.out 12 rfl;exact q9 (w':=W) (by unfold execOp;simp only[o12,hc];go_simp) (next _ _ trivial (by simpa only[qN,Nat.reduceEqDiff,if_false,if_true,reduceIte]using hS) rfl)
          ·have o13:ρ (.tmp 13)=.slice (some ⟨b5,0,none⟩) 8 c5:=hρ.out 13 rfl;exact q9 (w':=W) (by unfold execOp;simp only[o13,hc];go_simp) (next _ _ trivial (by simpa only[qN,Nat.reduceEqDiff,if_false,if_true,reduceIte]using hS) rfl)
          ·have o15:ρ (.tmp 15)=.int .i64 (n:Int):=hρ.out 15 rfl;exact q9 (w':=W) (by unfold execOp;simp only[o15,hc];go_simp) (next _ _ trivial (by simpa only[qN,Nat.reduceEqDiff,if_false,if_true,reduceIte]using hS) rfl)
          ·have o15:ρ (.tmp 15)=.int .i64 (n:Int):=hρ.out 15 rfl;exact q9 (w':=W) (by unfold execOp;simp only[o15,hc];go_simp) (next _ _ trivial (by simpa only[qN,Nat.reduceEqDiff,if_false,if_true,reduceIte]using hS) rfl)
          ·have g86:iG vp b5 c5 (n*2) (c5-n) y1 y2 (n:Int) i1 4 (vs 4) W:=hG 4 (qA 4 (by kernel_rfl));have s86:ρ (.tmp 86)=.int .i64 (n:Int):=(hρ.at_ 86 4 rfl).trans g86;have hw1:=HW1.out;exact q9 (w':=W) (by unfold execOp;simp only[s86,hc];go_simp) (next _ _ trivial (by simpa only[qN,Nat.reduceEqDiff,if_false,if_true,reduceIte]using hS) rfl)
          ·have g84:iG vp b5 c5 (n*2) (c5-n) y1 y2 (n:Int) i1 2 (vs 2) W:=hG 2 (qA 2 (by kernel_rfl));have s84:ρ (.tmp 84)=.slice (some ⟨b5,0,none⟩) 8 c5:=(hρ.at_ 84 2 rfl).trans g84;have g85:iG vp b5 c5 (n*2) (c5-n) y1 y2 (n:Int) i1 3 (vs 3) W:=hG 3 (qA 3 (by kernel_rfl));have s85:ρ (.tmp 85)=.int .i64 (n:Int):=(hρ.at_ 85 3 rfl).trans g85;have g87:iG vp b5 c5 (n*2) (c5-n) y1 y2 (n:Int) i1 5 (vs 5) W:=hG 5 (qA 5 (by kernel_rfl));have s87:ρ (.tmp 87)=.int .i64 i1:=(hρ.at_ 87 5 rfl).trans g87;exact q9 (v:=.slice (some ⟨b5,n*2,none⟩) 1 (c5-n)) (w':=W) (by unfold execOp;simp only[s84,s85,s87,Option.map_some,Option.map_none,Sem.run_bind,aX.out,Result.andThen_ok,Sem.run_pure,hc]) (next _ _ trivial (by have h0:=hS;simpa only[qN,Nat.reduceEqDiff,if_false,if_true,reduceIte]using h0) rfl)
          ·have g82:iG vp b5 c5 (n*2) (c5-n) y1 y2 (n:Int) i1 0 (vs 0) W:=hG 0 (qA 0 (by kernel_rfl));have s82:ρ (.tmp 82)=.pointer (some ⟨vp,0,none⟩):=(hρ.at_ 82 0 rfl).trans g82;have g83:iG vp b5 c5 (n*2) (c5-n) y1 y2 (n:Int) i1 1 (vs 1) W:=hG 1 (qA 1 (by kernel_rfl));have s83:ρ (.tmp 83)=.agg #[.int .u64 y1,.int .u64 y2,.int .u64 2,.int .u64 1,.int .i64 i1,.int .i64 8,.slice none 0 0]:=(hρ.at_ 83 1 rfl).trans g83;have g88:iG vp b5 c5 (n*2) (c5-n) y1 y2 (n:Int) i1 6 (vs 6) W:=hG 6 (qA 6 (by kernel_rfl));have s88:ρ (.tmp 88)=.slice (some ⟨b5,n*2,none⟩) 1 (c5-n):=(hρ.at_ 88 6 rfl).trans g88;rw[eR]at hS;refine qi (f:=24) (args:=#[.pointer (some ⟨vp,0,none⟩),.agg #[.int .u64 y1,.int .u64 y2,.int .u64 2,.int .u64 1,.int .i64 i1,.int .i64 8,.slice none 0 0],.slice (some ⟨b5,n*2,none⟩) 1 (c5-n)]) (w':=W) (by unfold execOp;simp only[hfn,s82,s83,s88];go_simp) ((HST.out W (hS.2.1 rfl)).mono ?_);rintro x W' ⟨rfl,h1⟩;exact⟨_,rfl,next _ _ trivial (by simpa only[qN,if_true,reduceIte]using h1) rfl⟩
          ·have g89:iG vp b5 c5 (n*2) (c5-n) y1 y2 (n:Int) i1 7 (vs 7) W:=hG 7 (qA 7 (by kernel_rfl));have s89:ρ (.tmp 89)=.int .i64 0:=(hρ.at_ 89 7 rfl).trans g89;exact q9 (w':=W) (by unfold execOp;simp only[s89,hc];go_simp) (next _ _ trivial (by simpa only[qN,Nat.reduceEqDiff,if_false,if_true,reduceIte]using hS) rfl)
         ·intro i o L vs W j want ho eR qA hg hv hI;obtain⟨hS,vZ⟩:=hI;have hG:∀j,L j=true→iG vp b5 c5 (n*2) (c5-n) y1 y2 (n:Int) i1 j (vs j) W:=fun j hj=>by
           by_cases dQ:j<9
           ·exact vZ j hj dQ
           ·match j,dQ with
            | j+9,_=>exact trivial
          have qf1:i<9:=(Array.getElem?_eq_some_iff.1 ho).1;rcases i with _|_|_|_|_|_|_|_|_|i;all_goals (first|omega|skip)
          all_goals simp only[QA,QB,QC,Option.some.injEq]at ho
          all_goals subst ho
          all_goals simp only[reduceCtorEq,Option.some.injEq,Prod.mk.injEq]at hg
         ·intro vs WE hI;obtain⟨hS,hG⟩:=hI;have g8:vs 8=.bool false:=hG 8 rfl (by decide);obtain⟨d5,m5,hv5,t5,sU,hj5,hf5,hp5,hz5⟩:=hS.2.2 rfl;have HV5:=QH hv5;have uq:=QH sU;have HJ5:=QH hj5;have HF5:=QH hf5;have tE:=QH hp5;have HZ5:=QH hz5;have wT:=QH (aJ.out.of_block (hS.1.block aJ.out.lt (.inl (.inl rfl))));have aK:Hid (ch.vU WE (some ⟨b5,0,none⟩) (zf (Sz z) 8)):=yT sG.out (fun b o e=>by cases e;exact hS.1.block (by obtain⟨x1,x2,x3,x4,_⟩:=sG.out 0 (by rw[zg];omega);cases x3;exact x4) (.inl (.inr rfl))) hS.1.size;have xQ:Hid (Below wa.heap.size wa WE):=zP.out.trans (hS.1.below zP.out.size);simp only[qW,qG,if_true];rw[g8];clear hS hG g8 hv5 sU hj5 hf5 hp5 hz5 aJ sG zP HST aX;generalize vs 0=x0;generalize vs 1=x1;generalize vs 2=x2;generalize vs 3=x3;generalize vs 4=x4;generalize vs 5=x5;generalize vs 6=x6;generalize vs 7=x7;simp only[Act.put,List.setIfInBounds_toArray,List.set_cons_succ,List.set_cons_zero];have hcm:(cut:Int).tmod 8=((cut%8:Nat):Int):=by rw[Int.tmod_eq_emod_of_nonneg (by omega)];omega
          have qxC:(cut:Int)%8=((cut%8:Nat):Int):=by omega
          obtain⟨r8,hr8⟩:=QE (cut%8);rw[hr8]at hcm qxC;clear hr8;by_cases hc8:n=r8
          ·have hq8:((n:Int) == (r8:Int))=true:=by rw[hc8];simp
           clear hc8;go_wp2_with fail;refine(qiC H HC HV5.out xQ.out.size HJ5.out.toRJ HF5.out uq.out).mono ?_;rintro e W6 ⟨vq,d6,rfl,tH,hj6,hf6,ji⟩;have eH:=QH tH;have HJ6:=QH hj6;have HF6:=QH hf6;have ew:=QH (wT.out.of_block (ji.block wT.out.lt (.inl (.inl rfl))));have ey:Hid (ch.vU W6 (some ⟨b5,0,none⟩) (zf (Sz z) 8)):=yT aK.out (fun b o e=>by cases e;exact ji.block (by obtain⟨x1,x2,x3,x4,_⟩:=aK.out 0 (by rw[zg];omega);cases x3;exact x4) (.inl (.inr rfl))) ji.size;have jy:Hid (Below wa.heap.size wa W6):=xQ.out.trans (ji.below xQ.out.size);clear tH hj6 hf6 ji HV5 HJ5 HF5 wT aK xQ;have kJ:((n:Int) == (r8:Int))=true:=hq8;by_cases h7:n<7
           ·have h7i:(n:Int)<7:=by omega
            have eG:=QH (tE.out (by omega));go_wp2_with fail;refine(qaK H HC eH.out rfl HJ6.out uq.out).mono ?_;rintro e W7 ⟨bb,rfl,hbb,kG⟩;rw[hbb eG.out.zh];have nW:=QH (eH.out.below H HC kG);have gY:=QH (qc jy.out kG);have sH:=QH (ew.out.below kG);have sI:=QH (ey.out.below kG);clear hbb kG eH jy ew ey;go_wp2_with fail;have HTO:Hid (∀W (P:Ending→World→Prop),(∀A8 c8 w',Below W.heap.size W w'→P (.returned (dc (tf m5.tok) A8 m5.tok.ql.length c8)) w')→V3 IV IC W wa.heap.size (fun j=>j=TB∨j=b5) vq pd p ⟨d6,m5,c,false⟩→Calls prog 25 #[.pointer (some ⟨vq,0,none⟩)] W P):=fun W P hP hv=>by
             obtain⟨o1,o2,o3,ho1,_⟩:=hv;refine(H.token ho1.is).mono ?_;rintro e w' ⟨A8,c8,rfl,_,_,kJ⟩;exact hP A8 c8 w' kJ
            refine HTO.out _ _ ?_ nW.out;intro A8 c8 W8 kJ;have HV8:=QH (nW.out.below H HC kJ);have lW:=QH (qc gY.out kJ);have qhz:=QH (sH.out.below kJ);have qh0:=QH (sI.out.below kJ);have hfd:∀W,(Instr.field 59 (dc (tf m5.tok) A8 m5.tok.ql.length c8) 2).run prog W=.ok (.int .i64 i1) W:=fun W=>by
             have h2:=eG.out.tok;rw[if_neg (by omega)]at h2;rw[h2];simp[Instr.field,go_sem,asAgg,dc];rw[← eY.out]
            obtain⟨TV,hTV⟩:=QE (dc (tf m5.tok) A8 m5.tok.ql.length c8);rw[hTV]at hfd ⊢;clear kJ nW gY sH sI hTV HTO;have hii:=eY.out;have hix:(i1 != i1)=false:=by simp
            go_wp2_with fail;go_roundw;case rel=>exact⟨n+1,vq,by omega,by go_num,rfl,⟨⟨t5,d6,m5,HV8.out,uq.out,HJ6.out,HF6.out,tE.out,HZ5.out⟩,by have h:=qhz.out;rw[← eY.out,← nz.out,← nA.out]at h;exact h,qh0.out⟩,lW.out⟩
            case measure=>simp[intOf];omega
           ·have h7i:¬ (n:Int)<7:=by omega
            go_wp2_with fail;have hii:=eY.out;go_roundw;case rel=>exact⟨n+1,vq,by omega,by go_num,rfl,⟨⟨t5,d6,m5,eH.out,uq.out,HJ6.out,HF6.out,tE.out,HZ5.out⟩,by have h:=ew.out;rw[← eY.out,← nz.out,← nA.out]at h;exact h,ey.out⟩,jy.out⟩
            case measure=>simp[intOf];omega
          ·have hq8:((n:Int) == (r8:Int))=false:=by simp;omega
           clear hc8;have eH:=QH HV5.out;have HJ6:=QH HJ5.out;have HF6:=QH HF5.out;have ew:=QH wT.out;have ey:=QH aK.out;have jy:=QH xQ.out;clear HV5 HJ5 HF5 wT aK xQ;by_cases h7:n<7
           ·have h7i:(n:Int)<7:=by omega
            have eG:=QH (tE.out (by omega));go_wp2_with fail;refine(qaK H HC eH.out rfl HJ6.out uq.out).mono ?_;rintro e W7 ⟨bb,rfl,hbb,kG⟩;rw[hbb eG.out.zh];have nW:=QH (eH.out.below H HC kG);have gY:=QH (qc jy.out kG);have sH:=QH (ew.out.below kG);have sI:=QH (ey.out.below kG);clear hbb kG eH jy ew ey;go_wp2_with fail;have HTO:Hid (∀W (P:Ending→World→Prop),(∀A8 c8 w',Below W.heap.size W w'→P (.returned (dc (tf m5.tok) A8 m5.tok.ql.length c8)) w')→V3 IV IC W wa.heap.size (fun j=>j=TB∨j=b5) vp pd p ⟨d5,m5,c,false⟩→Calls prog 25 #[.pointer (some ⟨vp,0,none⟩)] W P):=fun W P hP hv=>by
             obtain⟨o1,o2,o3,ho1,_⟩:=hv;refine(H.token ho1.is).mono ?_;rintro e w' ⟨A8,c8,rfl,_,_,kJ⟩;exact hP A8 c8 w' kJ
            refine HTO.out _ _ ?_ nW.out;intro A8 c8 W8 kJ;have HV8:=QH (nW.out.below H HC kJ);have lW:=QH (qc gY.out kJ);have qhz:=QH (sH.out.below kJ);have qh0:=QH (sI.out.below kJ);have hfd:∀W,(Instr.field 59 (dc (tf m5.tok) A8 m5.tok.ql.length c8) 2).run prog W=.ok (.int .i64 i1) W:=fun W=>by
             have h2:=eG.out.tok;rw[if_neg (by omega)]at h2;rw[h2];simp[Instr.field,go_sem,asAgg,dc];rw[← eY.out]
            obtain⟨TV,hTV⟩:=QE (dc (tf m5.tok) A8 m5.tok.ql.length c8);rw[hTV]at hfd ⊢;clear kJ nW gY sH sI hTV HTO;have hii:=eY.out;have hix:(i1 != i1)=false:=by simp
            go_wp2_with fail;go_roundw;case rel=>exact⟨n+1,vp,by omega,by go_num,rfl,⟨⟨t5,d5,m5,HV8.out,uq.out,HJ6.out,HF6.out,tE.out,HZ5.out⟩,by have h:=qhz.out;rw[← eY.out,← nz.out,← nA.out]at h;exact h,qh0.out⟩,lW.out⟩
            case measure=>simp[intOf];omega
           ·have h7i:¬ (n:Int)<7:=by omega
            go_wp2_with fail;have hii:=eY.out;go_roundw;case rel=>exact⟨n+1,vp,by omega,by go_num,rfl,⟨⟨t5,d5,m5,eH.out,uq.out,HJ6.out,HF6.out,tE.out,HZ5.out⟩,by have h:=ew.out;rw[← eY.out,← nz.out,← nA.out]at h;exact h,ey.out⟩,jy.out⟩
            case measure=>simp[intOf];omega
        ·have hni:¬ (n:Int)<8:=by omega
         obtain rfl:n=8:=by omega
         obtain⟨t3,d3,m3,hv3,hr3,hj3,hf3,_,hz3⟩:=HP.out.st;obtain⟨qpP,qpQ⟩:=hz3 rfl;have HV3:=QH hv3;have w6:=QH hr3;have HJ3:=QH hj3;have tZ:=QH qpP;have wV:=QH qpQ;have HAL:=QH HP.out.all;clear hv3 hr3 hj3 hf3 hz3 qpP qpQ HP;have HAD:=QH (qiB qsZ.out (by decide) HL8.out.1 HL8.out.2 (Sz z) (qcv z));go_wp2_with fail;refine(ch.zF 2 1 _).mono ?_;rintro e W5 ⟨rfl,hb5⟩;have HV5:=QH (HV3.out.below H HC hb5);have xQ:=QH (qc HBR.out hb5);have aK:=QH (HAL.out.below hb5);clear hb5 HV3 HBR HAL;go_wp2_with fail;refine(kL H HV5.out xQ.out.size (r:=c.add (2,1) (zf (Sz z) 8)) (fun o3 ho hx=>by
          have h5:=HC.add (2,1) (some ⟨b5,0,none⟩) c5 (zf (Sz z) 8) ho (show zZ (2,1)from⟨by decide,by decide⟩) aK.out (by rw[zg];omega) (fun b o e hh=>by cases e;exact(hx b5 hh).2 (.inr rfl));rw[zg]at h5;exact h5)).mono ?_
         rw[HAD.out];rintro e W6 ⟨rfl,tH,ji⟩;have eH:=QH tH;have jy:Hid (Below wa.heap.size wa W6):=xQ.out.trans (ji.below xQ.out.size);clear tH ji HV5 xQ aK;dsimp only;go_wp2_with fail;refine(qaK H HC eH.out rfl HJ3.out w6.out).mono ?_;rintro e W7 ⟨bb,rfl,hbb,kG⟩;rw[hbb tZ.out];have nW:=QH (eH.out.below H HC kG);have gY:=QH (qc jy.out kG);clear hbb kG eH jy;go_wp2_with fail;obtain⟨o1,o2,o3,ho1,_⟩:=nW.out;refine(H.token ho1.is).mono ?_;rintro e W8 ⟨A8,c8,rfl,_,_,kJ⟩;have lW:=QH (qc gY.out kJ);have hfd:∀W,(Instr.field 59 (dc (tf m3.tok) A8 m3.tok.ql.length c8) 1).run prog W=.ok (.agg #[.int .u64 0,.int .u64 0]) W:=fun W=>by
          rw[show m3.tok=zD from wV.out];simp[Instr.field,go_sem,asAgg,dc,tf,zD]
         dsimp only;obtain⟨TV,hTV⟩:=QE (dc (tf m3.tok) A8 m3.tok.ql.length c8);rw[hTV]at hfd ⊢;clear kJ ho1 nW gY hTV;go_wp2_with fail;refine(ch.zF 0 0 _).mono ?_;rintro e W9' ⟨rfl,hb9⟩;have qxF:=QH (qc lW.out hb9);clear hb9 lW;unfold ch.gv;go_wp2_with fail;go_ret;exact⟨rfl,qc HBA.out qxF.out⟩
    ·obtain⟨kl,hkl⟩:=QE (m.qa.length-1);have zK:kl+1=m.qa.length:=by omega
     have hkg:kl<(m.qa.map (·.g)).length:=by omega
     have hlk:=HLK.out kl hkg zK;obtain⟨bl,ol,rfl,hbl,g0,g1,hgx⟩:=qta.out kl hkg;rw[← hlk,HLG.out,nz.out]at g0;rw[← hlk,HLG.out,nA.out]at g1;have zbn:0<m.qa.length:=by omega
     have qom:(0:Int)<(m.qa.length:Int):=by omega
     have hwr:IntKind.i64.wrap ((m.qa.length:Int)-1)=(kl:Int):=by rw[IntWalk.i64_in _ (by omega)];omega
     have jG:(kl:Int)<(m.qa.length:Int):=by omega
     have f0:=oF.out.frozen 0;have f1:=oF.out.frozen 1;have p0:W6.cell? ⟨TB,0,none⟩=some (.int .u64 0):=oF.out.cell 0;have p1:W6.cell? ⟨TB,1,none⟩=some (.int .u64 0):=oF.out.cell 1;have q9a:=oF.out.lt;have htb:=(oF.out.qo 0 (.int .u64 y1)).qo 1 (.int .u64 y2);simp only[wh,List.setIfInBounds_toArray,List.set_cons_zero,List.set_cons_succ]at htb;have qlr:Hid (qf ((W6.setCell ⟨TB,0,none⟩ (.int .u64 y1)).setCell ⟨TB,1,none⟩ (.int .u64 y2)) TB 59 (wh y1 y2 0)):=htb;have bO:Hid (qy (fun j=>j=TB) W6 ((W6.setCell ⟨TB,0,none⟩ (.int .u64 y1)).setCell ⟨TB,1,none⟩ (.int .u64 y2))):=((qy.refl (fun j=>j=TB) W6).setCell ⟨TB,0,none⟩ (.int .u64 y1) (.inl rfl)).setCell ⟨TB,1,none⟩ (.int .u64 y2) (.inl rfl);have iP:=QH (nI.out.turn H HC bO.out);have HB9:Hid (Below wa.heap.size wa ((W6.setCell ⟨TB,0,none⟩ (.int .u64 y1)).setCell ⟨TB,1,none⟩ (.int .u64 y2))):=(lW.out.setCell (p:=⟨TB,0,none⟩) HM6.out _).setCell (p:=⟨TB,1,none⟩) HM6.out _;have qls:=QH (qlq.out.of_block (bO.out.block LB qlq.out.lt (fun e=>by have h1:LB=TB:=e;have:=HLT.out;omega)));obtain⟨W9,hW9⟩:=QE ((W6.setCell ⟨TB,0,none⟩ (.int .u64 y1)).setCell ⟨TB,1,none⟩ (.int .u64 y2));rw[hW9]at qlr iP HB9 qls;clear htb bO oF nI lW qlq qta;go_upto_region 15 with fail;try rw[hW9]
     clear hgx hlk;clear hW9 f0 f1 p0 p1 q9a g0 g1 hbl qom hwr jG hz eX hkg zK hkl;go_wp2_with fail;go_loopw [13,14] (fun u i wr=>qu9 z W9 u i wr) (fun _ i _=>9-(intOf i).toNat);case atStart=>exact⟨0,by omega,rfl,World.ownsRow_nil _ _ _ _,Below.refl _ _⟩
     case round =>
      obtain⟨q,hq,rfl,ho,hb⟩:=hrel;have HO:=QH ho;have HB:=QH hb;have qhv:=QH (qls.out.below hb);have HAB:Hid (∀x∈zf (Sz z) q,yA x.1):=fun x hx=>by
       simp only[zf,List.mem_map,List.mem_range]at hx;obtain⟨i,hi,rfl⟩:=hx;unfold yA;dsimp only;omega
      obtain⟨A5,c5,hv5,hl5,hn5⟩:=HO.out.rD HAB.out;rw[zg]at hv5;have gK:=QH hl5;have dC:=QH hn5;have HOL:Hid (wr.ownsRow W9.heap.size 62 2 u13 q (ch.yY (zf (Sz z) q))):=by
       have h:=HO.out;unfold ch.kr at h;rw[zg]at h;exact h
      subst hv5;clear ho hb hl5 hn5 HO;by_cases hq8:q<8
      ·have hqi:(q:Int)<8:=by omega
       have cz:wr.cell? ⟨LB,q,none⟩=some (.int .u8 ((z q).toNat:Int)):=by rw[qhv.out.cell q];exact qu8 z q hq8
       have hlb:=qhv.out.lt;obtain⟨a,ha⟩:=QE (UInt8.ofNat ((z q).toNat%200):UInt8);obtain⟨zt,hzt⟩:=QE ((z q).toNat:Int);have hzb:=(z q).toNat_lt;have haq:zt.tmod 200=(a.toNat:Int):=by
        rw[← hzt,← ha,Int.tmod_eq_emod_of_nonneg (by omega),UInt8.toNat_ofNat'];omega
       have qp5:zt%200=(a.toNat:Int):=by
        rw[← hzt,← ha,UInt8.toNat_ofNat'];omega
       have HSE:Hid (Sz z q=vB a):=by unfold Hid Sz;rw[ha]
       have kg:=QH (gU (Sz z) q);rw[hzt]at cz;clear ha hzt;have hdt:=ch.vk a wr;go_wp2_with fail;refine hdt.mono ?_;rintro e W10 ⟨rfl,qhw⟩;obtain⟨SS,hSS⟩:=QE (str (vB a));have HSS:=QH hSS;have tG:∀u∈([Value.int .i64 (q:Int),.string SS]:List Value),u.oneCell'=true:=by
        rw[← hSS];exact ch.fT ((q:Int),vB a)
       rw[hSS];have qpK:Hid ((W10.alloc (.cells #[.int .i64 (q:Int),.string SS] 62)).ownsRow W9.heap.size 62 2 (.slice A5 q c5) q (ch.yY (zf (Sz z) q))):=by
        refine World.ownsRow.alloc ?_ _;exact zB HOL.out (fun k hk=>qhw.block k (HOL.out.lt k hk).2)
       have HNE:=QH (ch.fU W10 62 (.int .i64 (q:Int)) (.string SS));have nO:=QH (qc (qc HB.out qhw) ((Below.refl _ W10).alloc (Nat.le_refl _) (.cells #[.int .i64 (q:Int),.string SS] 62)));clear hdt hSS qhw cz hlb haq qp5 hzb HOL;go_wp2_with (at_builtin;refine wpList_append_own _ rfl (.tmp 65) (.tmp 73) 60 rfl W9.heap.size 62 i0 (.agg #[.int .i64 0,.string ByteArray.empty]) 2 24 underlying60 hi hz0 hz1 hz2 rfl (by decide) _ q _ rfl qpK.out ⟨W10.heap.size,0,none⟩ 1 1 [.int .i64 (q:Int),.string SS] rfl rfl HNE.out tG ?_ ?_ nO.out.size ?_)
       ·unfold maxLen;omega
       ·omega
       ·intro v' w1 hown hgrow _;have rM:=QH (nO.out.grown hgrow nO.out.size (fun j hj=>(qpK.out.lt j hj).1));have HOS:Hid (ch.kr w1 W9.heap.size v' (zf (Sz z) (q+1))):=by
         unfold Hid;rw[kg.out];refine ch.kr.snoc (x:=((q:Int),Sz z q)) ?_;rw[zg,HSE.out,HSS.out];exact hown
        clear hown hgrow;go_wp2_with fail;go_roundw;case rel=>exact⟨q+1,by omega,by go_num,HOS.out,rM.out⟩
        case measure=>simp[intOf];omega
      ·have hqi:¬ (q:Int)<8:=by omega
       obtain rfl:q=8:=by omega
       obtain⟨b5,rfl,hb5,hc5⟩:∃b5,A5=some ⟨b5,0,none⟩∧(W9.heap.size≤b5∧b5<wr.heap.size)∧8≤c5:=by
        rcases HOL.out.2 with⟨h,h0⟩|⟨g,cap,cur,h1,h2,h3,h4,_⟩
        ·exact absurd h0 (by decide)
        ·simp only[Value.slice.injEq]at h1;exact⟨g,h1.1,⟨h2,(Array.getElem?_eq_some_iff.1 h3).1⟩,by rw[h1.2.2];exact h4⟩
       have HC5:=QH hc5;have qpL:=qt9 HC iP.out;have HL8:Hid (c.live.length=8∧c.base.length=8):=by
        have h1:c.live.length=8:=by rw[← HSM.out];show(volume t m.live).length=8;rw[xw];exact HVR.out.ok.len
        exact⟨h1,by rw[qpL.qby.1];exact h1⟩
       have nJ:=iP.out.below H HC HB.out;have HWL:Hid (W9.heap.size≤wr.heap.size):=HB.out.size;have HX:Hid (V3 IV IC wr wa.heap.size (fun j=>j=TB∨j=b5) v pd p ⟨d,m,c,false⟩):=iP.out.more H HC HB.out fun j hj=>by
        rcases hj with h|h
        ·exact .inl h
        ·exact .inr ⟨by rw[h];exact hb5.1,by rw[h];exact hb5.2⟩
       have HP3:Hid (P3 IV IC (Sz z) wa.heap.size pd p TB b5 c 0 v wr):=⟨⟨t,d,m,HX.out,HVR.out,HJ.out,HF.out,fun _=>qaN HSM.out iB.out,fun h=>by omega⟩,by rw[nz.out,nA.out];exact qlr.out.below HB.out,gK.out⟩;have qx9:=QH (qc HB9.out HB.out);obtain⟨w3,hw3⟩:∃x,x=wr:=⟨_,rfl⟩;subst hw3;clear nJ HX iP qlr HB dC gK HOL qhv HB9 qls HAB;clear qpL hc5 hb5;go_wp2_with fail;go_loopw [8,15,16,17] (fun u i _ _ wr=>quA IV IC (Sz z) wa.heap.size pd p TB b5 c wa u i wr) (fun _ i _ _ _=>9-(intOf i).toNat);case atStart=>exact⟨0,v,by omega,rfl,rfl,HP3.out,qx9.out⟩
       case round =>
        obtain⟨n,vp,hn,rfl,rfl,h3,hbr⟩:=hrel;have HP:=QH h3;have HBR:=QH hbr;clear h3 hbr;by_cases hn8:n<8
        ·have hni:(n:Int)<8:=by omega
         have htb:=HP.out.tb;unfold wh at htb;have f4:=htb.frozen 4;have q4:=htb.cell 4;have hlt:=htb.lt;simp only[QA,QB,QC]at q4;have qhx:=htb.qo 4 (.int .i64 ((n:Int)+1));simp only[List.setIfInBounds_toArray,List.set_cons_zero,List.set_cons_succ]at qhx;have bO:Hid (qy (fun j=>j=TB) wr (wr.setCell ⟨TB,4,none⟩ (.int .i64 ((n:Int)+1)))):=(qy.refl (fun j=>j=TB) wr).setCell ⟨TB,4,none⟩ (.int .i64 ((n:Int)+1)) (.inl rfl);obtain⟨t3,d3,m3,hv3,hr3,hj3,hf3,hp3,_⟩:=HP.out.st;have HV4:=QH (hv3.turn H HC (bO.out.mono fun j hj=>.inl hj));have wS:=QH qhx;have HCB:Hid (b5<wr.heap.size∧b5≠TB):=⟨by obtain⟨x1,x2,x3,x4,_⟩:=HP.out.all 0 (by rw[zg];omega);cases x3;exact x4,fun e=>by
          obtain⟨x1,x2,x3,x4,x5,_⟩:=HP.out.all 0 (by rw[zg];omega);cases x3;rw[e]at x5;rw[htb.cell]at x5;simp at x5⟩
         have sG:Hid (ch.vU (wr.setCell ⟨TB,4,none⟩ (.int .i64 ((n:Int)+1))) (some ⟨b5,0,none⟩) (zf (Sz z) 8)):=yT HP.out.all (fun b o e=>by cases e;exact bO.out.block b5 HCB.out.1 HCB.out.2) bO.out.size;have zP:Hid (Below wa.heap.size wa (wr.setCell ⟨TB,4,none⟩ (.int .i64 ((n:Int)+1)))):=HBR.out.setCell (p:=⟨TB,4,none⟩) HM6.out _;have w6:=QH hr3;have HJ3:=QH hj3;have HF3:=QH hf3;have tA:=QH (hp3 hn8);obtain⟨w4,hw4⟩:=QE (wr.setCell ⟨TB,4,none⟩ (.int .i64 ((n:Int)+1)));rw[hw4]at HV4 wS sG zP;clear qhx bO hv3 hr3 hj3 hf3 hp3;go_upto_region 24 with fail;try rw[hw4]
         clear hw4 htb f4 q4 hlt HP HBR;obtain⟨i1,hi1⟩:=QE ((n:Int)+1);have eY:=QH hi1;have HW1:Hid (IntKind.i64.wrap ((n:Int)+1)=i1):=by unfold Hid;rw[IntWalk.i64_in _ (by omega)];exact hi1
         have aX:Hid (∀W,(Instr.sliceAt 60 (.slice (some ⟨b5,0,none⟩) 8 c5) (some (.int .i64 (n:Int))) (some (.int .i64 i1)) none).run prog W=.ok (.slice (some ⟨b5,n*2,none⟩) 1 (c5-n)) W):=fun W=>by
          have h5:=HC5.out;have hu:=underlying60;have he:prog.elem 60=62:=by kernel_rfl
          have hs:(sizeOf 62).run prog W=.ok 2 W:=by simp[go_sem,sizeOf62]
          rw[run_sliceAt_slice W _ _ _ _ _ (by rw[he];exact hu),run_slice_lh W _ _ _ _ (by rw[he];exact hu) _ _ _ _ (by omega) (by omega) (by omega),he,hs,← hi1];have e1:((n:Int)).toNat=n:=Int.toNat_natCast n;have e2:((n:Int)+1).toNat=n+1:=by omega
          simp only[Result.andThen,sliced,e1,e2];rw[if_neg (by omega),show n+1-n=1 by omega];simp[Addr.add] <;> omega
         have HST:Hid (∀W,Below w4.heap.size w4 W→Calls prog 24 #[.pointer (some ⟨vp,0,none⟩),.agg #[.int .u64 y1,.int .u64 y2,.int .u64 2,.int .u64 1,.int .i64 i1,.int .i64 8,.slice none 0 0],.slice (some ⟨b5,n*2,none⟩) 1 (c5-n)] W (fun x W'=>x=.returned (.int .i64 0)∧PtS IV IC wa.heap.size (fun j=>j=TB∨j=b5) vp pd p c (PaQ (Sz z) c (n+1)) w4 true W')):=fun W hW=>by
          have hB:wa.heap.size≤W.heap.size:=Nat.le_trans zP.out.size hW.size;refine(kK HC (HV4.out.below H HC hW) hB (fun o1 o2 ho hx=>by
           have h5:=H.stage ⟨c.last,(2,1),(n:Int)+1,8⟩ (some ⟨b5,n*2,none⟩) (c5-n) [((n:Int),Sz z n)] ho HJ3.out (by have h:=HF3.out;show(0:Int)≤d3.qp;rw[h];decide) w6.out ⟨by rw[← HLG.out];exact HGL.out,(show zZ (2,1)from⟨by decide,by decide⟩),by unfold yA;dsimp only;omega,by unfold yA;dsimp only;omega⟩ (qpI (sG.out.below hW) hn8) (by simp) (fun b o e=>by
            cases e;exact⟨fun hh=>(hx b5 (.inl hh)).2 (.inr rfl),fun hh=>(hx b5 (.inr hh)).2 (.inr rfl)⟩)
           unfold dc at h5;dsimp only at h5;rw[nz.out,nA.out,eY.out]at h5;exact h5)).mono ?_
          rintro e W' ⟨r,d',m',l',rfl,hv',um,hq⟩;rw[← eY.out]at hq;obtain⟨rfl,rfl,hpa⟩:=qeH w6.out HJ3.out HF3.out qsZ.out (by decide) (qcv z) hn8 tA.out hq;exact⟨rfl,⟨(Ke.of_below hW).trans um,fun h=>(by cases h),fun _=>⟨d',m',hv',hpa⟩⟩⟩
         have aJ:Hid (qf w4 TB 59 #[.int .u64 y1,.int .u64 y2,.int .u64 2,.int .u64 1,.int .i64 i1,.int .i64 8,.slice none 0 0]):=by unfold Hid;rw[← eY.out,← nz.out,← nA.out];exact wS.out
         rw[hi1];clear hi1 wS w6 HJ3 HF3 tA HV4;refine xJ (by kernel_rfl) [82,83,84,85,86,87,88,89,90] (by kernel_rfl) (fun L vs W=>PtS IV IC wa.heap.size (fun j=>j=TB∨j=b5) vp pd p c (PaQ (Sz z) c (n+1)) w4 (L 7) W∧∀i,L i=true→i<9→iG vp b5 c5 (n*2) (c5-n) y1 y2 (n:Int) i1 i (vs i) W) ⟨⟨Ke.of_below (ud (Below.refl _ _) 1),fun _=>ud (Below.refl _ _) 1,fun h=>by cases h⟩,fun i hi=>by cases hi⟩ ?_ ?_ ?_
         ·intro i o L vs ρ W ho eR qA hρ hgd hI;obtain⟨hS,vZ⟩:=hI;have hG:∀j,L j=true→iG vp b5 c5 (n*2) (c5-n) y1 y2 (n:Int) i1 j (vs j) W:=fun j hj=>by
           by_cases dQ:j<9
           ·exact vZ j hj dQ
           ·match j,dQ with
            | j+9,_=>exact trivial
          have qf1:i<9:=(Array.getElem?_eq_some_iff.1 ho).1;have hc:=hρ.const;have hfn:=hρ.fn;have next:∀v W',(fun(_ _:World)=>True) W W'→PtS IV IC wa.heap.size (fun j=>j=TB∨j=b5) vp pd p c (PaQ (Sz z) c (n+1)) w4 (qN L i 7) W'→iG vp b5 c5 (n*2) (c5-n) y1 y2 (n:Int) i1 i v W'→PtS IV IC wa.heap.size (fun j=>j=TB∨j=b5) vp pd p c (PaQ (Sz z) c (n+1)) w4 (qN L i 7) W'∧∀j,qN L i j=true→j<9→iG vp b5 c5 (n*2) (c5-n) y1 y2 (n:Int) i1 j (zX vs i v j) W':=fun v W' h1 h0 h2=>by
           refine⟨h0,fun j hj dQ=>?_⟩;by_cases vn:j=i
           ·subst vn;simpa[zX]using h2
           ·simp only[qN,if_neg vn]at hj;simpa[zX,vn]using qeG vp b5 c5 (n*2) (c5-n) y1 y2 (n:Int) i1 j _ W W' dQ (vZ j hj dQ) h1
          have tJ:=aJ.out.of_block (hS.1.block aJ.out.lt (.inl (.inl rfl)));have z0:=tJ.cell 0;have z1:=tJ.cell 1;have z2:=tJ.cell 2;have z3:=tJ.cell 3;have z4:=tJ.cell 4;have z5:=tJ.cell 5;have z6:=tJ.cell 6;have zl:=tJ.lt;simp only[QA,QB,QC]at z0 z1 z2 z3 z4 z5 z6;rcases i with _|_|_|_|_|_|_|_|_|i;all_goals (first|omega|skip)
          all_goals simp only[QA,QB,QC,Option.some.injEq]at ho
          all_goals subst ho
          ·have o8:ρ (.tmp 8)=.pointer (some ⟨vp,0,none⟩):=hρ.out 8 rfl;exact q9 (w':=W) (by unfold execOp;simp only[o8,hc];go_simp) (next _ _ trivial (by simpa only[qN,Nat.reduceEqDiff,if_false,if_true,reduceIte]using hS) rfl)
          ·have o12:ρ (.tmp 12)=.pointer (some ⟨TB,0,none⟩):=hρ.out 12 rfl;exact q9 (w':=W) (by unfold execOp;simp only[o12,hc];go_simp) (next _ _ trivial (by simpa only[qN,Nat.reduceEqDiff,if_false,if_true,reduceIte]using hS) rfl)
          ·have o13:ρ (.tmp 13)=.slice (some ⟨b5,0,none⟩) 8 c5:=hρ.out 13 rfl;exact q9 (w':=W) (by unfold execOp;simp only[o13,hc];go_simp) (next _ _ trivial (by simpa only[qN,Nat.reduceEqDiff,if_false,if_true,reduceIte]using hS) rfl)
          ·have o15:ρ (.tmp 15)=.int .i64 (n:Int):=hρ.out 15 rfl;exact q9 (w':=W) (by unfold execOp;simp only[o15,hc];go_simp) (next _ _ trivial (by simpa only[qN,Nat.reduceEqDiff,if_false,if_true,reduceIte]using hS) rfl)
          ·have o15:ρ (.tmp 15)=.int .i64 (n:Int):=hρ.out 15 rfl;exact q9 (w':=W) (by unfold execOp;simp only[o15,hc];go_simp) (next _ _ trivial (by simpa only[qN,Nat.reduceEqDiff,if_false,if_true,reduceIte]using hS) rfl)
          ·have g86:iG vp b5 c5 (n*2) (c5-n) y1 y2 (n:Int) i1 4 (vs 4) W:=hG 4 (qA 4 (by kernel_rfl));have s86:ρ (.tmp 86)=.int .i64 (n:Int):=(hρ.at_ 86 4 rfl).trans g86;have hw1:=HW1.out;exact q9 (w':=W) (by unfold execOp;simp only[s86,hc];go_simp) (next _ _ trivial (by simpa only[qN,Nat.reduceEqDiff,if_false,if_true,reduceIte]using hS) rfl)
          ·have g84:iG vp b5 c5 (n*2) (c5-n) y1 y2 (n:Int) i1 2 (vs 2) W:=hG 2 (qA 2 (by kernel_rfl));have s84:ρ (.tmp 84)=.slice (some ⟨b5,0,none⟩) 8 c5:=(hρ.at_ 84 2 rfl).trans g84;have g85:iG vp b5 c5 (n*2) (c5-n) y1 y2 (n:Int) i1 3 (vs 3) W:=hG 3 (qA 3 (by kernel_rfl));have s85:ρ (.tmp 85)=.int .i64 (n:Int):=(hρ.at_ 85 3 rfl).trans g85;have g87:iG vp b5 c5 (n*2) (c5-n) y1 y2 (n:Int) i1 5 (vs 5) W:=hG 5 (qA 5 (by kernel_rfl));have s87:ρ (.tmp 87)=.int .i64 i1:=(hρ.at_ 87 5 rfl).trans g87;exact q9 (v:=.slice (some ⟨b5,n*2,none⟩) 1 (c5-n)) (w':=W) (by unfold execOp;simp only[s84,s85,s87,Option.map_some,Option.map_none,Sem.run_bind,aX.out,Result.andThen_ok,Sem.run_pure,hc]) (next _ _ trivial (by have h0:=hS;simpa only[qN,Nat.reduceEqDiff,if_false,if_true,reduceIte]using h0) rfl)
          ·have g82:iG vp b5 c5 (n*2) (c5-n) y1 y2 (n:Int) i1 0 (vs 0) W:=hG 0 (qA 0 (by kernel_rfl));have s82:ρ (.tmp 82)=.pointer (some ⟨vp,0,none⟩):=(hρ.at_ 82 0 rfl).trans g82;have g83:iG vp b5 c5 (n*2) (c5-n) y1 y2 (n:Int) i1 1 (vs 1) W:=hG 1 (qA 1 (by kernel_rfl));have s83:ρ (.tmp 83)=.agg #[.int .u64 y1,.int .u64 y2,.int .u64 2,.int .u64 1,.int .i64 i1,.int .i64 8,.slice none 0 0]:=(hρ.at_ 83 1 rfl).trans g83;have g88:iG vp b5 c5 (n*2) (c5-n) y1 y2 (n:Int) i1 6 (vs 6) W:=hG 6 (qA 6 (by kernel_rfl));have s88:ρ (.tmp 88)=.slice (some ⟨b5,n*2,none⟩) 1 (c5-n):=(hρ.at_ 88 6 rfl).trans g88;rw[eR]at hS;refine qi (f:=24) (args:=#[.pointer (some ⟨vp,0,none⟩),.agg #[.int .u64 y1,.int .u64 y2,.int .u64 2,.int .u64 1,.int .i64 i1,.int .i64 8,.slice none 0 0],.slice (some ⟨b5,n*2,none⟩) 1 (c5-n)]) (w':=W) (by unfold execOp;simp only[hfn,s82,s83,s88];go_simp) ((HST.out W (hS.2.1 rfl)).mono ?_);rintro x W' ⟨rfl,h1⟩;exact⟨_,rfl,next _ _ trivial (by simpa only[qN,if_true,reduceIte]using h1) rfl⟩
          ·have g89:iG vp b5 c5 (n*2) (c5-n) y1 y2 (n:Int) i1 7 (vs 7) W:=hG 7 (qA 7 (by kernel_rfl));have s89:ρ (.tmp 89)=.int .i64 0:=(hρ.at_ 89 7 rfl).trans g89;exact q9 (w':=W) (by unfold execOp;simp only[s89,hc];go_simp) (next _ _ trivial (by simpa only[qN,Nat.reduceEqDiff,if_false,if_true,reduceIte]using hS) rfl)
         ·intro i o L vs W j want ho eR qA hg hv hI;obtain⟨hS,vZ⟩:=hI;have hG:∀j,L j=true→iG vp b5 c5 (n*2) (c5-n) y1 y2 (n:Int) i1 j (vs j) W:=fun j hj=>by
           by_cases dQ:j<9
           ·exact vZ j hj dQ
           ·match j,dQ with
            | j+9,_=>exact trivial
          have qf1:i<9:=(Array.getElem?_eq_some_iff.1 ho).1;rcases i with _|_|_|_|_|_|_|_|_|i;all_goals (first|omega|skip)
          all_goals simp only[QA,QB,QC,Option.some.injEq]at ho
          all_goals subst ho
          all_goals simp only[reduceCtorEq,Option.some.injEq,Prod.mk.injEq]at hg
         ·intro vs WE hI;obtain⟨hS,hG⟩:=hI;have g8:vs 8=.bool false:=hG 8 rfl (by decide);obtain⟨d5,m5,hv5,t5,sU,hj5,hf5,hp5,hz5⟩:=hS.2.2 rfl;have HV5:=QH hv5;have uq:=QH sU;have HJ5:=QH hj5;have HF5:=QH hf5;have tE:=QH hp5;have HZ5:=QH hz5;have wT:=QH (aJ.out.of_block (hS.1.block aJ.out.lt (.inl (.inl rfl))));have aK:Hid (ch.vU WE (some ⟨b5,0,none⟩) (zf (Sz z) 8)):=yT sG.out (fun b o e=>by cases e;exact hS.1.block (by obtain⟨x1,x2,x3,x4,_⟩:=sG.out 0 (by rw[zg];omega);cases x3;exact x4) (.inl (.inr rfl))) hS.1.size;have xQ:Hid (Below wa.heap.size wa WE):=zP.out.trans (hS.1.below zP.out.size);simp only[qW,qG,if_true];rw[g8];clear hS hG g8 hv5 sU hj5 hf5 hp5 hz5 aJ sG zP HST aX;generalize vs 0=x0;generalize vs 1=x1;generalize vs 2=x2;generalize vs 3=x3;generalize vs 4=x4;generalize vs 5=x5;generalize vs 6=x6;generalize vs 7=x7;simp only[Act.put,List.setIfInBounds_toArray,List.set_cons_succ,List.set_cons_zero];have hcm:(cut:Int).tmod 8=((cut%8:Nat):Int):=by rw[Int.tmod_eq_emod_of_nonneg (by omega)];omega
          have qxC:(cut:Int)%8=((cut%8:Nat):Int):=by omega
          obtain⟨r8,hr8⟩:=QE (cut%8);rw[hr8]at hcm qxC;clear hr8;by_cases hc8:n=r8
          ·have hq8:((n:Int) == (r8:Int))=true:=by rw[hc8];simp
           clear hc8;go_wp2_with fail;refine(qiC H HC HV5.out xQ.out.size HJ5.out.toRJ HF5.out uq.out).mono ?_;rintro e W6 ⟨vq,d6,rfl,tH,hj6,hf6,ji⟩;have eH:=QH tH;have HJ6:=QH hj6;have HF6:=QH hf6;have ew:=QH (wT.out.of_block (ji.block wT.out.lt (.inl (.inl rfl))));have ey:Hid (ch.vU W6 (some ⟨b5,0,none⟩) (zf (Sz z) 8)):=yT aK.out (fun b o e=>by cases e;exact ji.block (by obtain⟨x1,x2,x3,x4,_⟩:=aK.out 0 (by rw[zg];omega);cases x3;exact x4) (.inl (.inr rfl))) ji.size;have jy:Hid (Below wa.heap.size wa W6):=xQ.out.trans (ji.below xQ.out.size);clear tH hj6 hf6 ji HV5 HJ5 HF5 wT aK xQ;have kJ:((n:Int) == (r8:Int))=true:=hq8;by_cases h7:n<7
           ·have h7i:(n:Int)<7:=by omega
            have eG:=QH (tE.out (by omega));go_wp2_with fail;refine(qaK H HC eH.out rfl HJ6.out uq.out).mono ?_;rintro e W7 ⟨bb,rfl,hbb,kG⟩;rw[hbb eG.out.zh];have nW:=QH (eH.out.below H HC kG);have gY:=QH (qc jy.out kG);have sH:=QH (ew.out.below kG);have sI:=QH (ey.out.below kG);clear hbb kG eH jy ew ey;go_wp2_with fail;have HTO:Hid (∀W (P:Ending→World→Prop),(∀A8 c8 w',Below W.heap.size W w'→P (.returned (dc (tf m5.tok) A8 m5.tok.ql.length c8)) w')→V3 IV IC W wa.heap.size (fun j=>j=TB∨j=b5) vq pd p ⟨d6,m5,c,false⟩→Calls prog 25 #[.pointer (some ⟨vq,0,none⟩)] W P):=fun W P hP hv=>by
             obtain⟨o1,o2,o3,ho1,_⟩:=hv;refine(H.token ho1.is).mono ?_;rintro e w' ⟨A8,c8,rfl,_,_,kJ⟩;exact hP A8 c8 w' kJ
            refine HTO.out _ _ ?_ nW.out;intro A8 c8 W8 kJ;have HV8:=QH (nW.out.below H HC kJ);have lW:=QH (qc gY.out kJ);have qhz:=QH (sH.out.below kJ);have qh0:=QH (sI.out.below kJ);have hfd:∀W,(Instr.field 59 (dc (tf m5.tok) A8 m5.tok.ql.length c8) 2).run prog W=.ok (.int .i64 i1) W:=fun W=>by
             have h2:=eG.out.tok;rw[if_neg (by omega)]at h2;rw[h2];simp[Instr.field,go_sem,asAgg,dc];rw[← eY.out]
            obtain⟨TV,hTV⟩:=QE (dc (tf m5.tok) A8 m5.tok.ql.length c8);rw[hTV]at hfd ⊢;clear kJ nW gY sH sI hTV HTO;have hii:=eY.out;have hix:(i1 != i1)=false:=by simp
            go_wp2_with fail;go_roundw;case rel=>exact⟨n+1,vq,by omega,by go_num,rfl,⟨⟨t5,d6,m5,HV8.out,uq.out,HJ6.out,HF6.out,tE.out,HZ5.out⟩,by have h:=qhz.out;rw[← eY.out,← nz.out,← nA.out]at h;exact h,qh0.out⟩,lW.out⟩
            case measure=>simp[intOf];omega
           ·have h7i:¬ (n:Int)<7:=by omega
            go_wp2_with fail;have hii:=eY.out;go_roundw;case rel=>exact⟨n+1,vq,by omega,by go_num,rfl,⟨⟨t5,d6,m5,eH.out,uq.out,HJ6.out,HF6.out,tE.out,HZ5.out⟩,by have h:=ew.out;rw[← eY.out,← nz.out,← nA.out]at h;exact h,ey.out⟩,jy.out⟩
            case measure=>simp[intOf];omega
          ·have hq8:((n:Int) == (r8:Int))=false:=by simp;omega
           clear hc8;have eH:=QH HV5.out;have HJ6:=QH HJ5.out;have HF6:=QH HF5.out;have ew:=QH wT.out;have ey:=QH aK.out;have jy:=QH xQ.out;clear HV5 HJ5 HF5 wT aK xQ;by_cases h7:n<7
           ·have h7i:(n:Int)<7:=by omega
            have eG:=QH (tE.out (by omega));go_wp2_with fail;refine(qaK H HC eH.out rfl HJ6.out uq.out).mono ?_;rintro e W7 ⟨bb,rfl,hbb,kG⟩;rw[hbb eG.out.zh];have nW:=QH (eH.out.below H HC kG);have gY:=QH (qc jy.out kG);have sH:=QH (ew.out.below kG);have sI:=QH (ey.out.below kG);clear hbb kG eH jy ew ey;go_wp2_with fail;have HTO:Hid (∀W (P:Ending→World→Prop),(∀A8 c8 w',Below W.heap.size W w'→P (.returned (dc (tf m5.tok) A8 m5.tok.ql.length c8)) w')→V3 IV IC W wa.heap.size (fun j=>j=TB∨j=b5) vp pd p ⟨d5,m5,c,false⟩→Calls prog 25 #[.pointer (some ⟨vp,0,none⟩)] W P):=fun W P hP hv=>by
             obtain⟨o1,o2,o3,ho1,_⟩:=hv;refine(H.token ho1.is).mono ?_;rintro e w' ⟨A8,c8,rfl,_,_,kJ⟩;exact hP A8 c8 w' kJ
            refine HTO.out _ _ ?_ nW.out;intro A8 c8 W8 kJ;have HV8:=QH (nW.out.below H HC kJ);have lW:=QH (qc gY.out kJ);have qhz:=QH (sH.out.below kJ);have qh0:=QH (sI.out.below kJ);have hfd:∀W,(Instr.field 59 (dc (tf m5.tok) A8 m5.tok.ql.length c8) 2).run prog W=.ok (.int .i64 i1) W:=fun W=>by
             have h2:=eG.out.tok;rw[if_neg (by omega)]at h2;rw[h2];simp[Instr.field,go_sem,asAgg,dc];rw[← eY.out]
            obtain⟨TV,hTV⟩:=QE (dc (tf m5.tok) A8 m5.tok.ql.length c8);rw[hTV]at hfd ⊢;clear kJ nW gY sH sI hTV HTO;have hii:=eY.out;have hix:(i1 != i1)=false:=by simp
            go_wp2_with fail;go_roundw;case rel=>exact⟨n+1,vp,by omega,by go_num,rfl,⟨⟨t5,d5,m5,HV8.out,uq.out,HJ6.out,HF6.out,tE.out,HZ5.out⟩,by have h:=qhz.out;rw[← eY.out,← nz.out,← nA.out]at h;exact h,qh0.out⟩,lW.out⟩
            case measure=>simp[intOf];omega
           ·have h7i:¬ (n:Int)<7:=by omega
            go_wp2_with fail;have hii:=eY.out;go_roundw;case rel=>exact⟨n+1,vp,by omega,by go_num,rfl,⟨⟨t5,d5,m5,eH.out,uq.out,HJ6.out,HF6.out,tE.out,HZ5.out⟩,by have h:=ew.out;rw[← eY.out,← nz.out,← nA.out]at h;exact h,ey.out⟩,jy.out⟩
            case measure=>simp[intOf];omega
        ·have hni:¬ (n:Int)<8:=by omega
         obtain rfl:n=8:=by omega
         obtain⟨t3,d3,m3,hv3,hr3,hj3,hf3,_,hz3⟩:=HP.out.st;obtain⟨qpP,qpQ⟩:=hz3 rfl;have HV3:=QH hv3;have w6:=QH hr3;have HJ3:=QH hj3;have tZ:=QH qpP;have wV:=QH qpQ;have HAL:=QH HP.out.all;clear hv3 hr3 hj3 hf3 hz3 qpP qpQ HP;have HAD:=QH (qiB qsZ.out (by decide) HL8.out.1 HL8.out.2 (Sz z) (qcv z));go_wp2_with fail;refine(ch.zF 2 1 _).mono ?_;rintro e W5 ⟨rfl,hb5⟩;have HV5:=QH (HV3.out.below H HC hb5);have xQ:=QH (qc HBR.out hb5);have aK:=QH (HAL.out.below hb5);clear hb5 HV3 HBR HAL;go_wp2_with fail;refine(kL H HV5.out xQ.out.size (r:=c.add (2,1) (zf (Sz z) 8)) (fun o3 ho hx=>by
          have h5:=HC.add (2,1) (some ⟨b5,0,none⟩) c5 (zf (Sz z) 8) ho (show zZ (2,1)from⟨by decide,by decide⟩) aK.out (by rw[zg];omega) (fun b o e hh=>by cases e;exact(hx b5 hh).2 (.inr rfl));rw[zg]at h5;exact h5)).mono ?_
         rw[HAD.out];rintro e W6 ⟨rfl,tH,ji⟩;have eH:=QH tH;have jy:Hid (Below wa.heap.size wa W6):=xQ.out.trans (ji.below xQ.out.size);clear tH ji HV5 xQ aK;dsimp only;go_wp2_with fail;refine(qaK H HC eH.out rfl HJ3.out w6.out).mono ?_;rintro e W7 ⟨bb,rfl,hbb,kG⟩;rw[hbb tZ.out];have nW:=QH (eH.out.below H HC kG);have gY:=QH (qc jy.out kG);clear hbb kG eH jy;go_wp2_with fail;obtain⟨o1,o2,o3,ho1,_⟩:=nW.out;refine(H.token ho1.is).mono ?_;rintro e W8 ⟨A8,c8,rfl,_,_,kJ⟩;have lW:=QH (qc gY.out kJ);have hfd:∀W,(Instr.field 59 (dc (tf m3.tok) A8 m3.tok.ql.length c8) 1).run prog W=.ok (.agg #[.int .u64 0,.int .u64 0]) W:=fun W=>by
          rw[show m3.tok=zD from wV.out];simp[Instr.field,go_sem,asAgg,dc,tf,zD]
         dsimp only;obtain⟨TV,hTV⟩:=QE (dc (tf m3.tok) A8 m3.tok.ql.length c8);rw[hTV]at hfd ⊢;clear kJ ho1 nW gY hTV;go_wp2_with fail;refine(ch.zF 0 0 _).mono ?_;rintro e W9' ⟨rfl,hb9⟩;have qxF:=QH (qc lW.out hb9);clear hb9 lW;unfold ch.gv;go_wp2_with fail;go_ret;exact⟨rfl,qc HBA.out qxF.out⟩
end Go.Proofs.YtdagdllomphidaaGreatDoor.vt
namespace Go.Proofs.YtdagdllomphidaaGreatDoor.vt
open _root_.Go.Proofs.Tryz Go Go.RowKit Go.ChangeShapes Go.WideShapes Go.Deep ib
section
variable {H:Type} {enc:TypeId × Value→H} {w:World} {held:Bool} {d:DataW H} {pl:List MemPlace}
theorem q37{r:Reach}{b0:Nat}{v:Value}(hv:Value.okWide prog w r b0 51 v)(h:DataW.Trod enc prog w 0 (fun _=>true) held 51 v d pl) :
    ∃z:Nat→UInt8,v=.agg (z8 z):=by
 have hu:=underlying51;have c8:prog.cellsOf 51=8:=by kernel_rfl
 have c1:prog.cellsOf 5=1:=by kernel_rfl
 simp only[Value.okWide,hu]at hv;obtain⟨⟨cs⟩,rfl,h2,_⟩:=hv;rw[c8]at h2
 match cs,h2 with
 | [v0,v1,v2,v3,v4,v5,v6,v7],_ =>
  obtain⟨fuel,hf⟩:=h;obtain⟨xs,m,_,_,_,hl,hi⟩:=DataW.trod_array hu hf
  match xs,hl with
  | [x0,x1,x2,x3,x4,x5,x6,x7],_ =>
   have g0:=hi 0 (by omega);have g1:=hi 1 (by omega);have g2:=hi 2 (by omega);have g3:=hi 3 (by omega);have g4:=hi 4 (by omega);have g5:=hi 5 (by omega);have g6:=hi 6 (by omega);have g7:=hi 7 (by omega);simp[c1,Value.cells]at g0 g1 g2 g3 g4 g5 g6 g7;obtain⟨k0,h0,_,b0⟩:=DataW.trod_int underlying5 g0;obtain⟨c0,rfl⟩:=ix b0;obtain rfl:v0=_:=by simpa using h0
   obtain⟨k1,h1,_,b1⟩:=DataW.trod_int underlying5 g1;obtain⟨c1',rfl⟩:=ix b1;obtain rfl:v1=_:=by simpa using h1
   obtain⟨k2,h2,_,b2⟩:=DataW.trod_int underlying5 g2;obtain⟨c2,rfl⟩:=ix b2;obtain rfl:v2=_:=by simpa using h2
   obtain⟨k3,h3,_,b3⟩:=DataW.trod_int underlying5 g3;obtain⟨c3,rfl⟩:=ix b3;obtain rfl:v3=_:=by simpa using h3
   obtain⟨k4,h4,_,b4⟩:=DataW.trod_int underlying5 g4;obtain⟨c4,rfl⟩:=ix b4;obtain rfl:v4=_:=by simpa using h4
   obtain⟨k5,h5,_,b5⟩:=DataW.trod_int underlying5 g5;obtain⟨c5,rfl⟩:=ix b5;obtain rfl:v5=_:=by simpa using h5
   obtain⟨k6,h6,_,b6⟩:=DataW.trod_int underlying5 g6;obtain⟨c6,rfl⟩:=ix b6;obtain rfl:v6=_:=by simpa using h6
   obtain⟨k7,h7,_,b7⟩:=DataW.trod_int underlying5 g7;obtain⟨c7,rfl⟩:=ix b7;obtain rfl:v7=_:=by simpa using h7
   exact⟨fun i=>match i with | 0=>c0 | 1=>c1' | 2=>c2 | 3=>c3 | 4=>c4 | 5=>c5 | 6=>c6|_=>c7,rfl⟩
end
end Go.Proofs.YtdagdllomphidaaGreatDoor.vt
namespace Go.Proofs.YtdagdllomphidaaGreatDoor.vaultParts
open _root_.Go.Proofs.Tryz Go.ChangeShapes Go.WideShapes Go.ChangeAt Go.RowKit
open Go.ChangeMaps (open_string shut_string)
open _root_.Go.Proofs.Tryz ib vt
theorem own:ownKnob prog.godebug=none:=by kernel_rfl
theorem laidOut:laidOutB prog=true:=by kernel_rfl
theorem qpR(os:Os)(args:Array Value):laidMet prog Rows.vaultPartsRow.laid ((gT os).forCall (fun _ _=>0) ⟨#[],args,[]⟩).memory :=
 laidMet_of_run3 8 (by kernel_rfl) (by kernel_rfl) (by kernel_rfl)
theorem witness(os:Os){H:Type}(enc:TypeId × Value→H) :
    (OpenSpec.ofChange Rows.vaultPartsSpec).preRow enc prog Tryz.f5 Rows.vaultPartsRow.domain false Rows.vaultPartsRow.laid ((gT os).forCall (fun _ _=>0) ⟨#[],#[.slice none 0 0,.agg #[.int .u8 0,.int .u8 0,.int .u8 0,.int .u8 0,.int .u8 0,.int .u8 0,.int .u8 0,.int .u8 0],.int .u8 0],[]⟩).memory #[.slice none 0 0,.agg #[.int .u8 0,.int .u8 0,.int .u8 0,.int .u8 0,.int .u8 0,.int .u8 0,.int .u8 0,.int .u8 0],.int .u8 0]:=by
 have hw:(DataW.whole enc prog ((gT os).forCall (fun _ _=>0) ⟨#[],#[.slice none 0 0,.agg #[.int .u8 0,.int .u8 0,.int .u8 0,.int .u8 0,.int .u8 0,.int .u8 0,.int .u8 0,.int .u8 0],.int .u8 0],[]⟩).memory Tryz.f5.params.toList (OpenSpec.ofChange Rows.vaultPartsSpec).vars false (#[.slice none 0 0,.agg #[.int .u8 0,.int .u8 0,.int .u8 0,.int .u8 0,.int .u8 0,.int .u8 0,.int .u8 0,.int .u8 0],.int .u8 0]:Array Value).toList 8).map (fun x=>(x.1,x.2.1)) =
     some ([.nil,.agg [.lit (.int .u8 0),.lit (.int .u8 0),.lit (.int .u8 0),.lit (.int .u8 0),.lit (.int .u8 0),.lit (.int .u8 0),.lit (.int .u8 0),.lit (.int .u8 0)],.lit (.int .u8 0)],[]):=by kernel_rfl
 obtain⟨⟨x1,x2,x3⟩,hx,hx1⟩:=Option.map_eq_some_iff.1 hw;simp only[Prod.mk.injEq]at hx1;obtain⟨rfl,rfl⟩:=hx1;exact OpenSpec.preRow_of_cond 8 hx (by kernel_rfl) (fun k hk=>by cases hk) (by kernel_rfl) (qpR os _)
theorem lifted(os:Os)(started:os.Started)(H:Type)(enc:TypeId × Value→H)(F:Stop.Interp) :
    ReturnsInHanded {} Tryz.checked os 5 .any ((OpenSpec.ofChange Rows.vaultPartsSpec).preRow enc prog Tryz.f5 Rows.vaultPartsRow.domain false Rows.vaultPartsRow.laid) (((OpenSpec.ofChange Rows.vaultPartsSpec).at F).post enc prog Tryz.f5 false true false false):=by
 refine returnsInHanded_of_row (C:=Tryz.checked) (s:=OpenSpec.ofChange Rows.vaultPartsSpec) own started (by kernel_rfl) func5
  (witness_row_at (enc:=enc) (C:=Tryz.checked) false (gT os) #[.slice none 0 0,.agg #[.int .u8 0,.int .u8 0,.int .u8 0,.int .u8 0,.int .u8 0,.int .u8 0,.int .u8 0,.int .u8 0],.int .u8 0] rfl (by kernel_rfl) (by kernel_rfl) (by kernel_rfl) (witness os enc)) ?_
 intro W base args ds gs before quC hW _ _ q9b hL _ _;have ht:xK W:=qcu (laidMet.tail hL) (by kernel_rfl);have hval:∀(j:Nat) t v,Tryz.f5.params[j]?=some t→args[j]?=some v→Value.okWide prog W .any base t v:=quC;have hW':=hW;obtain⟨p,q,hA0,hV,rfl,hfz,hnd⟩:=hW;have hA:DataW.TrodAll enc prog W 0 (fun _=>true) true Tryz.f5.params.toList args.toList ds p:=hA0;rw[Tryz.params5]at hA hval;obtain⟨v0,vs0,d0,ds0,p0,q0,zbp,rfl,rfl,h0,r0⟩:=trodAll_cons hA;obtain⟨v1,vs1,d1,ds1,p1,q1,rfl,rfl,rfl,h1,r1⟩:=trodAll_cons r0;obtain⟨v2,vs2,d2,ds2,p2,q2,rfl,rfl,rfl,h2,r2⟩:=trodAll_cons r1;obtain⟨rfl,rfl,rfl⟩:=trodAll_nil r2;obtain rfl:args = #[v0,v1,v2]:=by cases args;simp_all
 obtain⟨rfl,rfl⟩:=trodVars_none hV;obtain⟨a0,l0,c0,rfl⟩:=okWide_slice underlying22 (hval 0 22 v0 rfl rfl);have k0:=h0;have lt0:∀x∈p0,x.block<W.heap.size:=by obtain⟨m,hm⟩:=k0;exact DataW.trod_lt m _ _ _ hm
 obtain⟨zs0,q9c,hl0,hT0⟩:=qx6 k0;subst q9c;have k1:=h1;have lt1:∀x∈p1,x.block<W.heap.size:=by obtain⟨m,hm⟩:=k1;exact DataW.trod_lt m _ _ _ hm
 obtain⟨z1,rfl⟩:=q37 (hval 1 51 v1 rfl rfl) k1;obtain⟨a2,rfl,rfl,rfl,w2⟩:=open_int underlying5 (hval 2 5 v2 rfl rfl) h2;obtain⟨n2,rfl,wn2⟩:=qpE w2;clear hA0 quC q9b;simp only[List.append_nil]at hW';refine(nC qi5 ch.pg.qi5 (qll qi5) a0 c0 zs0 z1 n2 wn2 W hT0 hl0 ht).mono fun e W' ⟨he,hg⟩=>?_;subst he;exact⟨_,rfl,_,_,_,[],_,[],hW',trodAll_mk1 (shut_bool underlying4 _),(trodAll_cons_mk (Below.trod laidOut (by kernel_rfl) (of_decide_eq_true (by kernel_rfl)) k0 hg lt0) (trodAll_cons_mk (Below.trod laidOut (by kernel_rfl) (of_decide_eq_true (by kernel_rfl)) k1 hg lt1) (trodAll_cons_mk (shut_int underlying5 w2) trodAll_mk0))),rfl,hg.frame _,fun h=>by cases h⟩
theorem over:Rows.VaultPartsSaid :=
 OpenClaim.holds_of_cond 5 Tryz.f5 rfl rfl rfl rfl rfl rfl rfl ⟨rfl,rfl,rfl,rfl,rfl⟩ rfl rfl rfl rfl rfl (by kernel_rfl) func5 (by kernel_rfl)
  (of_decide_eq_true (by kernel_rfl)) (by unfold Func.isWrapper;first|(rw[if_pos (by decide +kernel)];kernel_rfl)|(rw[if_neg (by decide +kernel)];exact⟨rfl,rfl⟩))
  (fun os started H enc _ F=>by rw[OpenClaim.pre_eq_preRow];exact lifted os started H enc F)
theorem proved:Rows.VaultPartsCardSaid :=
 Claim7.holds_tied_plain_at .later [] [.data,.data,.pinned] true Rows.vaultPartsCard.stood.harness true
  over (fun _ h=>by cases h) (by kernel_rfl) (fun _ h=>by cases h) vaultParts_row_tie rfl ⟨rfl,rfl⟩ (by kernel_rfl) rfl
  (fun f fn hf hfn=>by
   obtain rfl:f=5:=Option.some.inj ((show prog.funcNamed Rows.vaultPartsRow.func=some 5 by kernel_rfl).symm.trans hf) |>.symm;obtain rfl:fn=Tryz.f5:=(Option.some.inj (func5.symm.trans hfn)).symm;exact⟨by kernel_rfl,fun j t ht=>by
    rw[Tryz.params5]at ht;rcases j with _|j
    ·have:t=22:=by simpa using ht.symm
     subst this;exact(show prog.wantsStandIn 22=false by kernel_rfl)
    rcases j with _|j
    ·have:t=51:=by simpa using ht.symm
     subst this;exact(show prog.wantsStandIn 51=false by kernel_rfl)
    rcases j with _|j
    ·have:t=5:=by simpa using ht.symm
     subst this;exact(show prog.wantsStandIn 5=false by kernel_rfl)
    simp at ht⟩)
  (by kernel_rfl)
#print axioms proved
end Go.Proofs.YtdagdllomphidaaGreatDoor.vaultParts

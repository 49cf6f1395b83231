/- A vault whose power goes in a change is before it or behind it, never between. -/
import Derived.Test.YtdagdllomphidaaGreatDoorZR13
import Derived.Test.YtdagdllomphidaaGreatDoorCards
import Derived.Test.YtdagdllomphidaaGreatDoorTie
import Derived.SevenTiedAt
import Derived.ProofKit
import Derived.ShutString
import Derived.SizedLaws
import Derived.ChangeOld
import Derived.SliceStrings
set_option linter.unusedVariables false
set_option linter.unusedSimpArgs false
set_option maxHeartbeats 30000000
set_option maxRecDepth 100000
namespace Go.Proofs.YtdagdllomphidaaGreatDoor.vt
open _root_.Go.Proofs.Tryz Go Go.RowKit ib jr mt im sp
def qpE (w:World)(A:Option Addr)(l:List tx):Prop :=
 ∀i (h:i<l.length),∃b o,A=some ⟨b,o,none⟩∧b<w.heap.size∧w.cell? ⟨b,o+i*3,none⟩=some (.int .u8 (l[i].k:Int))∧w.cell? ⟨b,o+i*3+1,none⟩=some (.int .u8 (l[i].n:Int))∧w.cell? ⟨b,o+i*3+2,none⟩=some (.int .u8 (l[i].z.toNat:Int))∧l[i].k<256∧l[i].n<256
end Go.Proofs.YtdagdllomphidaaGreatDoor.vt
namespace Go.Proofs.YtdagdllomphidaaGreatDoor
open _root_.Go.Proofs.Tryz Go Go.ChangeShapes Go.WideShapes Go.Deep
theorem iy {H:Type}{enc:TypeId × Value→H}{P:Program}{w:World}{base:Nat}{spare:Nat→Bool}{held:Bool}{t e:TypeId}{fs:Array Field}{fuel:Nat}{cs:List Value}{x:DataW H × List MemPlace}
    (ht:P.underlying t=some (.slice e)) (he:P.underlying e=some (.struct fs)) (qkT:∀(i:Nat) (f:Field),fs[i]?=some f→f.offset=i∧P.cellsOf f.type=1) (ce:P.cellsOf e=fs.size)
    (h:DataW.trod enc P w base spare held fuel t cs=some x) :
    (cs=[.slice none 0 0]∧x=(.nil,[])) ∨
    ∃(a:Addr) (len cap m:Nat),cs=[.slice (some a) len cap]∧base≤a.block∧len≤cap∧cap≤maxLen∧m=(if spare a.block then cap else len) ∧
     ∀i,i<m→∀k f,fs[k]?=some f→∃v y n,w.cell? (a.add (i*fs.size+k))=some v∧DataW.trod enc P w base spare held n f.type [v]=some y:=by
 rcases open_slice ht h with h0|⟨a,len,cap,m,n,D,Pl,rfl,hb,hl,hm,hmm,rfl,hx⟩
 ·exact Or.inl h0
 right
 refine⟨a,len,cap,m,rfl,hb,hl,hm,hmm,fun i hi k f hk=>?_⟩;obtain⟨cs',h1,h2⟩:=hx i hi;rw[ce]at h1;obtain⟨_,hlen,hcell⟩:=World.cells?_some h1;obtain⟨xs,n',_,_,_,dG,hf⟩:=DataW.trod_struct he h2;have hlt:k<fs.size:=(Array.getElem?_eq_some_iff.1 hk).1;obtain⟨ho,hc1⟩:=qkT k f hk;have g:=hf k f hk;rw[ho,hc1,take1_drop cs' k undef (by omega),List.getElem?_eq_getElem (by omega)]at g;have hcl:=hcell k hlt;rw[add_add,List.getElem?_eq_getElem (by omega)]at hcl;refine⟨cs'.getD k undef,_,n',?_,g⟩;rw[hcl];simp[List.getD,List.getElem?_eq_getElem (show k<cs'.length by omega)]
end Go.Proofs.YtdagdllomphidaaGreatDoor
namespace Go.Proofs.YtdagdllomphidaaGreatDoor.vt
open _root_.Go.Proofs.Tryz Go Go.RowKit Go.ChangeShapes Go.WideShapes Go.Deep ib
theorem qi8{x:Int}(h:(Lit.int .u8 x).wf=true):∃c:Nat,x=(c:Int)∧c<256:=by
 have hb:=bounds_u8 h;exact⟨x.toNat,by omega,by omega⟩
theorem qu9{x:Int}(h:(Lit.int .u8 x).wf=true):∃c:UInt8,x=(c.toNat:Int):=by
 have hb:=bounds_u8 h;exact⟨UInt8.ofNat x.toNat,by rw[UInt8.toNat_ofNat'];omega⟩
theorem qsZ{P:Program}{fs:Array Field}(h:(List.range fs.size).all (fun i=>match fs[i]? with|some f=>decide (f.offset=i)&&decide (P.cellsOf f.type=1)|none=>true)=true):∀(i:Nat) (f:Field),fs[i]?=some f→f.offset=i∧P.cellsOf f.type=1:=by
 intro i f hf;have hi:=(Array.getElem?_eq_some_iff.1 hf).1;have:=List.all_eq_true.1 h i (List.mem_range.2 hi);rw[hf]at this;simpa using this
section
variable {H:Type} {enc:TypeId × Value→H} {w:World} {held:Bool} {a:Option Addr} {l c:Nat} {d:DataW H} {pl:List MemPlace}
theorem qxG(h:DataW.Trod enc prog w 0 (fun _=>true) held 22 (.slice a l c) d pl):∃zs:List tx,zs.length=l∧l≤9223372036854775807∧qpE w a zs:=by
 obtain⟨fuel,hf⟩:=h;rcases iy underlying22 underlying34 (qsZ (by kernel_rfl)) (by kernel_rfl) hf with⟨hcs,_⟩|⟨x,l',c',m,hcs,_,hl,hm,hmm,hi⟩
 ·simp[Value.cells]at hcs;obtain⟨rfl,rfl,rfl⟩:=hcs;exact⟨[],rfl,by omega,fun i h=>absurd h (by simp)⟩
 ·simp[Value.cells]at hcs;obtain⟨rfl,rfl,rfl⟩:=hcs;simp only[if_true]at hmm;subst hmm;unfold maxLen at hm;obtain⟨zs,hzl,hz⟩:=vD (p:=fun i (z:tx)=>w.cell? (x.add (i*3))=some (.int .u8 (z.k:Int))∧w.cell? (x.add (i*3+1))=some (.int .u8 (z.n:Int))∧w.cell? (x.add (i*3+2))=some (.int .u8 (z.z.toNat:Int))∧z.k<256∧z.n<256) l (fun i bG=>by
   obtain⟨v0,y0,n0,e0,g0⟩:=hi i (by omega) 0 _ rfl;obtain⟨v1,y1,n1,e1,g1⟩:=hi i (by omega) 1 _ rfl;obtain⟨v2,y2,n2,e2,g2⟩:=hi i (by omega) 2 _ rfl;obtain⟨k0,h0,_,b0⟩:=DataW.trod_int underlying5 g0;obtain⟨k1,h1,_,b1⟩:=DataW.trod_int underlying5 g1;obtain⟨k2,h2,_,b2⟩:=DataW.trod_int underlying5 g2;obtain⟨c0,rfl,l0⟩:=qi8 b0;obtain⟨c1,rfl,l1⟩:=qi8 b1;obtain⟨c2,rfl⟩:=qu9 b2;obtain rfl:v0=_:=by simpa using h0
   obtain rfl:v1=_:=by simpa using h1
   obtain rfl:v2=_:=by simpa using h2
   exact⟨⟨c0,c1,c2⟩,e0,e1,e2,l0,l1⟩)
  refine⟨zs,hzl,by omega,fun i bG=>?_⟩;have h0:=(hz 0 (by omega)).1;rw[Nat.zero_mul]at h0;obtain⟨b,o,rfl,hb⟩:=qtj h0;have:=hz i bG;rw[addr_add,addr_add,addr_add]at this;simp only[Nat.add_assoc]at this ⊢;exact⟨b,o,rfl,hb,this⟩
theorem q35{r:Reach}{b0:Nat}{v:Value}(hv:Value.okWide prog w r b0 34 v)(h:DataW.Trod enc prog w 0 (fun _=>true) held 34 v d pl) :
    ∃x:tx,v=.agg (xX x)∧x.k<256∧x.n<256:=by
 have hu:=underlying34;have c3:prog.cellsOf 34=3:=by kernel_rfl
 have c1:prog.cellsOf 5=1:=by kernel_rfl
 simp only[Value.okWide,hu]at hv;obtain⟨⟨cs⟩,rfl,h2,_⟩:=hv;rw[c3]at h2
 match cs,h2 with
 | [v0,v1,v2],_ =>
  obtain⟨fuel,hf⟩:=h;obtain⟨xs,m,_,_,_,hl,hi⟩:=DataW.trod_struct hu hf
  match xs,hl with
  | [X0,X1,X2],_ =>
   have g0:=hi 0 _ rfl;have g1:=hi 1 _ rfl;have g2:=hi 2 _ rfl;simp[c1,Value.cells]at g0 g1 g2;obtain⟨k0,h0,_,b0⟩:=DataW.trod_int underlying5 g0;obtain⟨k1,h1,_,b1⟩:=DataW.trod_int underlying5 g1;obtain⟨k2,h2,_,b2⟩:=DataW.trod_int underlying5 g2;obtain⟨c0,rfl,l0⟩:=qi8 b0;obtain⟨c1,rfl,l1⟩:=qi8 b1;obtain⟨c2,rfl⟩:=qu9 b2;obtain rfl:v0=_:=by simpa using h0
   obtain rfl:v1=_:=by simpa using h1
   obtain rfl:v2=_:=by simpa using h2
   exact⟨⟨c0,c1,c2⟩,rfl,l0,l1⟩
end
end Go.Proofs.YtdagdllomphidaaGreatDoor.vt
namespace Go.Proofs.YtdagdllomphidaaGreatDoor.vt
open _root_.Go.Proofs.Tryz Go Go.RowKit Go.ChangeShapes Go.WideShapes Go.Deep ib
section
variable {H:Type} {enc:TypeId × Value→H} {w:World} {held:Bool} {a:Option Addr} {l c:Nat} {d:DataW H} {pl:List MemPlace}
theorem qpF(h:DataW.Trod enc prog w 0 (fun _=>true) held 40 (.slice a l c) d pl):∃zs:List Bool,zs.length=l∧l≤9223372036854775807∧dk.gL w a zs:=by
 obtain⟨fuel,hf⟩:=h;rcases open_slice1 underlying40 (by kernel_rfl) hf with⟨hcs,_⟩|⟨x,l',c',m,n,V,D,Pl,hcs,_,hl,hm,hmm,_,hi⟩
 ·simp[Value.cells]at hcs;obtain⟨rfl,rfl,rfl⟩:=hcs;exact⟨[],rfl,by omega,fun i h=>absurd h (by simp)⟩
 ·simp[Value.cells]at hcs;obtain⟨rfl,rfl,rfl⟩:=hcs;simp only[if_true]at hmm;subst hmm;unfold maxLen at hm;obtain⟨zs,hzl,hz⟩:=vD (p:=fun i (z:Bool)=>w.cell? (x.add i)=some (.bool z)) l (fun i bG=>by
   obtain⟨h1,h2⟩:=hi i (by omega);obtain⟨k,h3,_⟩:=DataW.trod_bool underlying4 h2;have h3':V i=.bool k:=by simpa using h3
   exact⟨k,by rw[h1,h3']⟩)
  refine⟨zs,hzl,by omega,fun i bG=>?_⟩;obtain⟨b,o,rfl,hb⟩:=qtj (hz 0 (by omega));have:=hz i bG;rw[addr_add]at this;exact⟨b,o,rfl,hb,this⟩
end
end Go.Proofs.YtdagdllomphidaaGreatDoor.vt
namespace Go.Proofs.YtdagdllomphidaaGreatDoor.vt
open _root_.Go.Proofs.Tryz Go Go.RowKit ib jr mt im sp
def Was (IC:ch.cS)(q:Nat)(was:ch.CH):ch.cS:=fun own w p c=>∃o3 o4,IC o3 w p c∧IC o4 w q was∧(∀j,o4 j→j≠p)∧∀j,own j↔o3 j∨o4 j
section
variable {IC:ch.cS} (HI:ch.Impl IC) {q:Nat} {was:ch.CH}
include HI
theorem iz {own:Nat→Prop}{w w':World}{p:Nat}{c:ch.CH}{r:ch.CH × Int}{e:Ending}{o3 o4:Nat→Prop}(h2:IC o4 w q was)(h3:∀j,o4 j→j≠p)(h4:∀j,own j↔o3 j∨o4 j)(h:ch.Aft IC o3 p r w e w'∧qz (fun j=>j=p) w w'):ch.Aft (Was IC q was) own p r w e w':=by
 obtain⟨⟨he,o3',k1,k2,k3⟩,hb⟩:=h;refine⟨he,fun j=>o3' j∨o4 j,⟨o3',o4,k1,HI.keep h2 (fun j hj=>hb.block j (HI.low h2 j hj) (h3 j hj)) hb.size,h3,fun j=>Iff.rfl⟩,k2.mono fun j hj=>(h4 j).2 (.inl hj),fun j hj=>?_⟩;rcases hj with hj|hj
 ·rcases k3 j hj with h|h
  ·exact .inl ((h4 j).2 (.inl h))
  ·exact .inr h
 ·exact .inl ((h4 j).2 (.inr hj))
theorem yC:ch.Ops (Was IC q was) where
 low:=fun⟨_,_,h1,h2,_,h4⟩ j hj=>by
  rcases(h4 j).1 hj with h|h
  ·exact HI.low h1 j h
  ·exact HI.low h2 j h
 ok:=fun⟨_,_,h1,_⟩=>HI.ok h1
 keep:=fun⟨o3,o4,h1,h2,h3,h4⟩ hb hs=>⟨o3,o4,HI.keep h1 (fun j hj=>hb j ((h4 j).2 (.inl hj))) hs,HI.keep h2 (fun j hj=>hb j ((h4 j).2 (.inr hj))) hs,h3,h4⟩
 write:=fun k s ⟨_,_,h1,h2,h3,h4⟩ hk=>(HI.qnp k s h1 hk).mono fun _ _ ha=>iz HI (c:=was) h2 h3 h4 ha
 snap:=fun g ⟨_,_,h1,h2,h3,h4⟩ hg=>(HI.qt8 g h1 hg).mono fun _ _ ha=>iz HI (c:=was) h2 h3 h4 ha
 add:=fun g A c x ⟨_,_,h1,h2,h3,h4⟩ hg hx hl _=>(HI.qzN g A c x h1 hg hx hl).mono fun _ _ ha=>iz HI (c:=was) h2 h3 h4 ha
 roll:=fun k ⟨_,_,h1,h2,h3,h4⟩ hk=>(HI.qt7 k h1 hk).mono fun _ _ ha=>iz HI (c:=was) h2 h3 h4 ha
 kK:=fun g ⟨_,_,h1,h2,h3,h4⟩ hg=>(HI.qt9 g h1 hg).mono fun _ _ ha=>iz HI (c:=was) h2 h3 h4 ha
 live:=fun⟨_,_,h1,_⟩=>HI.live h1
 list:=fun⟨_,_,h1,_⟩=>HI.list h1
 read:=fun g ⟨_,_,h1,_⟩ hg=>HI.read g h1 hg
 changes:=fun k ⟨_,_,h1,_⟩ hk=>HI.changes k h1 hk
 at_:=fun⟨_,_,h1,_,_,h4⟩=>(h4 _).2 (.inl (HI.at_ h1))
theorem qta{IV:yx}(H:yz IV){w:World}{B v pd p:Nat}{X:Nat→Prop}{s:Tri}(h:V3 IV IC w B X v pd p s)(hB:B≤w.heap.size) :
    Calls prog 14 #[.pointer (some ⟨p,0,none⟩)] w fun e w'=>∃q,e=.returned (.pointer (some ⟨q,0,none⟩))∧V3 IV (Was IC q s.c) w' B X v pd p s∧Below w.heap.size w w':=by
 obtain⟨o1,o2,o3,h1,h2,h3,h4,h5⟩:=h;refine(HI.copy h2).mono ?_;rintro e w' ⟨q,o4,rfl,k1,k2,k3⟩;refine⟨q,rfl,⟨o1,o2,fun j=>o3 j∨o4 j,h1.keep H (fun j hj=>k2.block j (h1.low H j hj)) k2.size,⟨o3,o4,HI.keep h2 (fun j hj=>k2.block j (HI.low h2 j hj)) k2.size,k1,fun j hj=>?_,fun j=>Iff.rfl⟩,fun j hj=>⟨(h3 j hj).1,fun ho=>?_,(h3 j hj).2.2⟩,fun j hj=>?_,fun j hj=>Nat.lt_of_lt_of_le (h5.1 j hj) k2.size,h5.2⟩,k2⟩
 ·rcases k3 j hj with h|h
  ·exact h.2
  ·have:=HI.low h2 p (HI.at_ h2);omega
 ·rcases ho with ho|ho
  ·exact(h3 j hj).2.1 ho
  ·rcases k3 j ho with h|h
   ·exact(h3 j hj).2.1 h.1
   ·have:=h1.low H j (.inl hj);omega
 ·rcases hj with hj|hj
  ·exact h4 j hj
  ·rcases k3 j hj with h|h
   ·exact h4 j h.1
   ·exact⟨by omega,fun hx=>by have:=h5.1 j hx;omega⟩
omit HI in
theorem qxH{IV:yx}{w:World}{B v pd p:Nat}{X:Nat→Prop}{s:Tri}(h:V3 IV (Was IC q was) w B X v pd p s):V3 IV IC w B X v pd p s:=by
 obtain⟨o1,o2,o3,h1,⟨a,b,k1,k2,k3,k4⟩,h3,h4,h5⟩:=h;exact⟨o1,o2,a,h1,k1,fun j hj=>⟨(h3 j hj).1,fun ho=>(h3 j hj).2.1 ((k4 j).2 (.inl ho)),(h3 j hj).2.2⟩,fun j hj=>h4 j ((k4 j).2 (.inl hj)),h5⟩
omit HI in
theorem qxI{IV:yx}{w:World}{B v pd p:Nat}{X:Nat→Prop}{s:Tri}(h:V3 IV (Was IC q was) w B X v pd p s):V3 IV IC w B X v pd q ⟨s.d,s.m,was,s.lost⟩:=by
 obtain⟨o1,o2,o3,h1,⟨a,b,k1,k2,k3,k4⟩,h3,h4,h5⟩:=h;exact⟨o1,o2,b,h1,k2,fun j hj=>⟨(h3 j hj).1,fun ho=>(h3 j hj).2.1 ((k4 j).2 (.inr ho)),(h3 j hj).2.2⟩,fun j hj=>h4 j ((k4 j).2 (.inr hj)),h5⟩
end
end Go.Proofs.YtdagdllomphidaaGreatDoor.vt
namespace Go.Proofs.YtdagdllomphidaaGreatDoor.vt
open _root_.Go.Proofs.Tryz Go Go.RowKit ib jr mt im sp
theorem qeI(c:ch.CH)(g:Gd):c.may g=0∨c.may g=2∨c.may g=3:=by
 unfold ch.CH.may;split
 ·split <;> simp
 ·simp
theorem nj (c:ch.CH)(x:tx)(next:Nat):(zE c x next).2≠7∧(zE c x next).2≠6:=by
 unfold zE;split
 ·unfold ch.CH.write;split <;> simp
 ·split
  ·unfold ch.CH.snap;split
   ·simp
   ·show c.may (1,next)≠7∧c.may (1,next)≠6;rcases qeI c (1,next)with h|h|h <;> rw[h] <;> exact⟨by decide,by decide⟩
  ·split
   ·unfold ch.CH.roll;split <;> simp
   ·split
    ·unfold ch.CH.kK;split
     ·simp
     ·split
      ·simp
      ·split <;> simp
    ·unfold ch.CH.add;split
     ·split <;> simp
     ·show c.may (1,next)≠7∧c.may (1,next)≠6;rcases qeI c (1,next)with h|h|h <;> rw[h] <;> exact⟨by decide,by decide⟩
section
variable {IV:yx} {IC:ch.cS} (H:yz IV) (HI:ch.Impl IC) {w w':World} {N B v pd p q:Nat} {c:ch.CH}
include H HI
theorem qtb(h:VC IV IC N w B v pd p c)(hB:B≤w.heap.size):Calls prog 14 #[.pointer (some ⟨p,0,none⟩)] w fun e w'=>∃q,e=.returned (.pointer (some ⟨q,0,none⟩))∧VC IV (Was IC q c) N w' B v pd p c∧Below w.heap.size w w':=by
 obtain⟨t,d,m,h1,h2⟩:=h;refine(qta HI H h1 hB).mono ?_;rintro e w' ⟨q,rfl,hv,hb⟩;exact⟨q,rfl,⟨t,d,m,hv,h2⟩,hb⟩
end
end Go.Proofs.YtdagdllomphidaaGreatDoor.vt
namespace Go.Proofs.YtdagdllomphidaaGreatDoor.vt
open _root_.Go.Proofs.Tryz Go Go.RowKit ib jr mt im sp
theorem sG {w w':World}{B:Nat}{A:Option Addr}{bs:List Bool}(h:dk.gL w A bs)(hk:∀b o,A=some ⟨b,o,none⟩→0<bs.length→b<B)(hb:Below B w w'):dk.gL w' A bs:=fun i hi=>by
 obtain⟨b,o,h1,h2,h3⟩:=h i hi;exact⟨b,o,h1,Nat.lt_of_lt_of_le h2 hb.size,by rw[hb.cell (p:=⟨b,o+i,none⟩) (hk b o h1 (by omega))];exact h3⟩
theorem qtc{d:DD}(h:d.on=false)(hf:d.qu=0):d.off=d:=by
 obtain⟨a,b,c,e,f⟩:=d;dsimp only at h hf;subst h;subst hf;rfl
theorem qeJ{N:Nat}{t:Tg}{d:DD}(h:JJ N t d)(keep:List Bool):RJ N t (d.off.sZ keep):=by
 have h1:d.off.sZ keep={ d with base:=dk.qO d.base (dk.stay d.more keep),more:=[],on:=true,qu:=0 }:=rfl;have h2:dk.qO d.base (dk.stay d.more keep)=d.base:=by rw[h.more];cases keep <;> rfl
 rw[h1,h2];exact⟨rfl,rfl,h.room,h.rb⟩
theorem qlm{t:Tg}{d d':DD}{m m':Mt}{r:Int}{l':Bool}{c:ch.CH}(h:qW 8 400 t m)(hj:JJ 400 t d)(wx:m.tok=zR)(hs:zD t m=c)(x:tx)(next:Nat)(hn:next<18446744073709551616)(hq:yo 400 t d m (jH 400 m x next) r d' m' l')(keep:List Bool) :
    ∃t' n,RJ 400 t' (d'.off.sZ keep)∧qW 8 400 t' n ∧
     ((r=(zE c x next).2∧r≠6∧zD t' n=(zE c x next).1)∨(r=6∧(l'=true∨d'.on=false)∧(zD t' n=c∨zD t' n=(zE c x next).1))):=by
 subst hs;rcases hq with⟨h0,rfl,rfl,rfl,rfl⟩|⟨h0,rfl,hj',rfl,rfl,hf',_⟩|⟨h0,rfl,hg,rfl,_,hf⟩
 ·rcases aO h wx x next hn with⟨_,hN⟩|⟨h1,_,h3⟩
  ·omega
  ·exact⟨t,m',qeJ hj keep,h,.inl ⟨h1,by rw[h1];exact(nj _ x next).2,(h3 h0).symm⟩⟩
 ·rcases aO h wx x next hn with⟨h7,_⟩|⟨h1,h2,_⟩
  ·rw[h0]at h7;exact absurd h7 (by decide)
  ·obtain⟨⟨d1,d2,d3⟩,_⟩:=h2 h0;exact⟨_,_,qeJ hj' keep,h.next d1 d2,.inl ⟨by rw[← h1,h0],by decide,d3⟩⟩
 ·rcases aO h wx x next hn with⟨h7,_⟩|⟨_,h2,_⟩
  ·rw[h0]at h7;exact absurd h7 (by decide)
  ·obtain⟨⟨d1,d2,d3⟩,_⟩:=h2 h0;have hw:=hg.2 keep;rw[qtc hg.1 hf];rcases hw with hw|hw
   ·exact⟨t,m,hw,h,.inr ⟨rfl,.inl rfl,.inl rfl⟩⟩
   ·exact⟨_,_,hw,h.next d1 d2,.inr ⟨rfl,.inl rfl,.inr d3⟩⟩
section
variable {IV:yx} {IC:ch.cS} (H:yz IV) (HC:ch.Ops IC) {w w':World} {B v pd p N:Nat} {X:Nat→Prop} {s:Tri}
include H HC
theorem iA (h:V3 IV IC w B X v pd p s){f:Nat}{args:Array Value}{d1:DD}{r:Value}(hB:B≤w.heap.size)(hc:∀o2,dk.zA 1000 w o2 pd s.d→(∀j,o2 j→B≤j∧¬ X j)→Calls prog f args w (dk.xh 1000 o2 pd d1 r w)) :
    Calls prog f args w fun e w'=>e=.returned r∧V3 IV IC w' B X v pd p ⟨d1,s.m,s.c,s.lost⟩∧Ke B X w w':=by
 obtain⟨o1,o2,o3,h1,h2,h3,h4,h5⟩:=h;refine(hc o2 h1.dk (fun j hj=>⟨(h3 j (.inr hj)).1,(h3 j (.inr hj)).2.2⟩)).mono ?_;rintro e w' ⟨rfl,wW,k1,k2,k3⟩;have hb:qz o2 w w':=pN k2;have hn:∀j,wW j→o2 j∨w.heap.size≤j:=fun j hj=>k3 j hj;refine⟨rfl,⟨o1,wW,o3,⟨H.keep h1.is (fun j hj=>hb.block j (H.low h1.is j hj) (h1.dj j hj)) hb.size,k1,fun j hj ho=>?_⟩,HC.keep h2 (fun j hj=>hb.block j (HC.low h2 j hj) (fun ho=>(h3 j (.inr ho)).2.1 hj)) hb.size,fun j hj=>?_,h4,fun j hj=>Nat.lt_of_lt_of_le (h5.1 j hj) hb.size,h5.2⟩,hb.mono fun j hj=>⟨(h3 j (.inr hj)).1,(h3 j (.inr hj)).2.2⟩⟩
 ·rcases hn j ho with h|h
  ·exact h1.dj j hj h
  ·have:=H.low h1.is j hj;omega
 ·rcases hj with hj|hj
  ·exact h3 j (.inl hj)
  ·rcases hn j hj with h|h
   ·exact h3 j (.inr h)
   ·exact⟨by omega,fun ho=>by have:=HC.low h2 j ho;omega,fun hx=>by have:=h5.1 j hx;omega⟩
theorem qeK(h:V3 IV IC w B X v pd p s)(hB:B≤w.heap.size)(hl:s.lost=true∨s.d.on=false) :
    Calls prog 16 #[.pointer (some ⟨v,0,none⟩)] w fun e w'=>e=.returned (.tuple #[.slice none 0 0,.int .i64 6])∧V3 IV IC w' B X v pd p ⟨s.d,s.m,s.c,true⟩∧Ke B X w w':=by
 obtain⟨o1,o2,o3,h1,h2,h3,h4,h5⟩:=h;refine(H.qd5 h1 hl).mono ?_;rintro e w' ⟨rfl,dJ,k1,k2,k3⟩;refine⟨rfl,⟨dJ,o2,o3,k1,HC.keep h2 (fun j hj=>k2.block j (HC.low h2 j hj) (fun ho=>(h3 j (.inl ho)).2.1 hj)) k2.size,fun j hj=>?_,h4,fun j hj=>Nat.lt_of_lt_of_le (h5.1 j hj) k2.size,h5.2⟩,k2.mono fun j hj=>⟨(h3 j (.inl hj)).1,(h3 j (.inl hj)).2.2⟩⟩;rcases hj with hj|hj
 ·rcases k3 j hj with h|h
  ·exact h3 j (.inl h)
  ·exact⟨by omega,fun ho=>by have:=HC.low h2 j ho;omega,fun hx=>by have:=h5.1 j hx;omega⟩
 ·exact h3 j (.inr hj)
theorem qi9{t:Tg}{b:Nat}{m:Mt}(h:V3 IV IC w B X v pd p s)(hB:B≤w.heap.size)(hj:RJ N t s.d)(hf:s.d.qu=0)(hr:qW b N t m):Calls prog 12 #[.pointer (some ⟨pd,0,none⟩)] w
      fun e w'=>∃v' d',e=.returned (.tuple #[.pointer (some ⟨v',0,none⟩),.int .i64 0])∧V3 IV IC w' B X v' pd p ⟨d',m,s.c,false⟩∧JJ N t d'∧d'.qu=0∧Ke B X w w':=by
 obtain⟨o1,o2,o3,h1,h7,h8,h9,h10⟩:=h;refine(H.nN h1.dk (H.tab h1.is) (h1.dj gN (.inr rfl)) hj hf hr).mono ?_;rintro e w' ⟨v',d',q1,q2,rfl,hv,hj',hf',xW,g1,g2⟩;refine⟨v',d',rfl,⟨q1,q2,o3,hv,HC.keep h7 (fun j hj=>xW.block j (HC.low h7 j hj) (fun ho=>(h8 j (.inr ho)).2.1 hj)) xW.size,fun j hj=>?_,h9,fun j hj=>Nat.lt_of_lt_of_le (h10.1 j hj) xW.size,h10.2⟩,hj',hf',xW.mono fun j hj=>⟨(h8 j (.inr hj)).1,(h8 j (.inr hj)).2.2⟩⟩;have hnew:w.heap.size≤j→B≤j∧¬ o3 j∧¬ X j:=fun h=>⟨by omega,fun ho=>by have:=HC.low h7 j ho;omega,fun hx=>by have:=h10.1 j hx;omega⟩;rcases hj with hj|hj
 ·exact hnew (g1 j hj)
 ·rcases g2 j hj with h|h
  ·exact h8 j (.inr h)
  ·exact hnew h
end
end Go.Proofs.YtdagdllomphidaaGreatDoor.vt
namespace Go.Proofs.YtdagdllomphidaaGreatDoor.vt
open _root_.Go.Proofs.Tryz Go Go.RowKit ib jr mt im sp
def q36 (IV:yx)(IC:ch.cS)(w:World)(vp pd p:Nat)(u i:Value)(wr:World):Prop :=
 ∃(k:Nat) (c:ch.CH),k≤12∧i=.int .i64 (k:Int)∧u=.int .u64 (((k+1:Nat)):Int)∧VC IV IC 400 wr w.heap.size vp pd p c∧Below w.heap.size w wr
def q37 (w:World)(u i:Value)(wr:World):Prop :=
 ∃k f:Nat,k≤30∧1≤f∧f≤k+1∧i=.int .i64 (k:Int)∧u=.int .i64 (f:Int)∧Below w.heap.size w wr
section
variable {IV:yx} {IC:ch.cS} (H:yz IV) (HI:ch.Impl IC)
include H HI
theorem nE (HW:∀w,xL w→Calls prog 8 #[] w (qff w))(A:Option Addr)(cp:Nat)(l:List tx)(x:tx)(A':Option Addr)(cp':Nat)(bs:List Bool)(w:World)(hT:qpE w A l)(hl:l.length≤9223372036854775807)(sO:x.k<256)(hxn:x.n<256)(hP:dk.gL w A' bs)(hbl:bs.length≤9223372036854775807)(ht:xL w) :
    Calls prog 4 #[.slice A l.length cp,.agg (xX x),.slice A' bs.length cp'] w (qff w):=by
 have HC:=HI.toOps;have iB:=QH ((Below.refl w.heap.size w).alloc (Nat.le_refl _) (.cells (xX x) 34));have HX0:=QH (qg.new w 34 (xX x));obtain⟨wb,hwb⟩:=QE (w.alloc (.cells (xX x) 34));rw[hwb]at iB HX0;have dK:Hid (xL wb):=QH (xi ht iB.out (zP ht));clear ht;have HT:Hid (qpE wb A l):=fun i h=>by
  obtain⟨b,o,h1,h2,h3,h4,h5,h6⟩:=hT i h;exact⟨b,o,h1,Nat.lt_of_lt_of_le h2 iB.out.size,by rw[iB.out.cell (p:=⟨b,o+i*3,none⟩) h2];exact h3,by rw[iB.out.cell (p:=⟨b,o+i*3+1,none⟩) h2];exact h4,by rw[iB.out.cell (p:=⟨b,o+i*3+2,none⟩) h2];exact h5,h6⟩
 have HP:Hid (dk.gL wb A' bs):=fun i h=>by
  obtain⟨b,o,h1,h2,h3⟩:=hP i h;exact⟨b,o,h1,Nat.lt_of_lt_of_le h2 iB.out.size,by rw[iB.out.cell (p:=⟨b,o+i,none⟩) h2];exact h3⟩
 clear hT hP;unfold xX at hwb HX0 ⊢;go_enter func4,ntmps4;go_wp2_with fail;try rw[hwb]
 clear hwb;refine(HW wb dK.out).mono ?_;rintro e W0 ⟨rfl,hb0⟩;have xz:=QH hb0;clear hb0;go_wp2_with fail;refine(qp3 H 8 (by decide) (by decide) W0 (xi dK.out xz.out (zP dK.out))).mono ?_;rintro e W1 ⟨v,pd,t,d,o1,o2,rfl,hv,hj,hr,hf,hb1,ho⟩;have qV:=QH (qc xz.out hb1);have HN1:Hid (∀(W2:World) (p:Nat) (o3:Nat→Prop),IC o3 W2 p (ch.ug 8)→Below W1.heap.size W1 W2→(∀j,o3 j→W1.heap.size≤j)→VC IV IC 400 W2 wb.heap.size v pd p (ch.ug 8)):=fun W2 p o3 hc hb ho3 =>
  qxy (w:=wb) H HC hv hj hr hf (fun j hj=>Nat.le_trans xz.out.size (ho j hj)) hc hb qV.out.size (zP dK.out) ho3
 clear hv hj hr hf hb1 ho xz;go_wp2_with fail;refine(HI.uN 8 W1 (by decide) (by decide)).mono ?_;rintro e W2 ⟨p,o3,rfl,hc,hb2,ho3⟩;have HV:=QH (HN1.out W2 p o3 hc hb2 ho3);have qC:=QH (qc qV.out hb2);clear hc hb2 ho3 HN1 qV;go_wp2_with fail;go_loopw [10,11] (fun u i wr=>q36 IV IC wb v pd p u i wr) (fun _ i _=>13-(intOf i).toNat);case atStart=>exact⟨0,_,by omega,rfl,rfl,HV.out,qC.out⟩
 case round =>
  clear HV qC;obtain⟨k,c,hk,rfl,rfl,hv,hb⟩:=hrel;have HV:=QH hv;have HB:=QH hb;have HM:Hid (wb.heap.size≤wr.heap.size):=hb.size;clear hv hb;by_cases hgo:k<l.length∧k<12
  ·obtain⟨hlt,h12⟩:=hgo;have jW:(k:Int)<(l.length:Int):=by omega
   have zfG:(k:Int)<12:=by omega
   obtain⟨b,o,rfl,qpG,g0,g1,g2,sS,hgn⟩:=HT.out k hlt;have c0:wr.cell? ⟨b,o+k*3,none⟩=some (.int .u8 (l[k].k:Int)):=by rw[HB.out.cell (p:=⟨b,o+k*3,none⟩) qpG];exact g0
   have c1:wr.cell? ⟨b,o+k*3+1,none⟩=some (.int .u8 (l[k].n:Int)):=by rw[HB.out.cell (p:=⟨b,o+k*3+1,none⟩) qpG];exact g1
   have c2:wr.cell? ⟨b,o+k*3+2,none⟩=some (.int .u8 (l[k].z.toNat:Int)):=by rw[HB.out.cell (p:=⟨b,o+k*3+2,none⟩) qpG];exact g2
   have l0:b<wr.heap.size:=Nat.lt_of_lt_of_le qpG HB.out.size;have uh:=qsO H HC HV.out HM.out (by decide) l[k] (k+1) sS hgn (by omega);unfold xX at uh;obtain⟨er,hs⟩:=QE ((zE c l[k] (k+1)).2);obtain⟨c',hc'⟩:=QE ((zE c l[k] (k+1)).1);rw[hs,hc']at uh;clear hs hc' g0 g1 g2 qpG;have q38:=wrap_u64 (k+1+1) (by omega);rw[Int.natCast_add (k+1) 1]at q38;obtain⟨nx,hnx⟩:=QE ((k+1:Nat):Int);rw[hnx]at uh q38 ⊢;go_wp2_with fail;refine uh.mono ?_;clear uh c0 c1 c2 l0;rintro e W3 ⟨rfl,hv3,hb3⟩;have HV3:=QH hv3;have qZ:=QH (HB.out.trans hb3);clear hv3 hb3 HV HB HM;go_wp2_with fail;go_roundw;case rel=>exact⟨k+1,c',by omega,by go_num,by subst hnx;rfl,HV3.out,qZ.out⟩
   case measure=>simp[intOf];omega
  ·have quA:((k:Int)<(l.length:Int)∧¬ (k:Int)<12)∨¬ (k:Int)<(l.length:Int):=by omega
   clear hgo;have qxJ:k+1<18446744073709551616:=by omega
   obtain⟨nx,hnx⟩:=QE (k+1);rw[hnx]at qxJ ⊢;clear hnx;have HD:Hid (∀W,Calls prog 18 #[.int .u8 97] W (okS (wV 97) W)):=fun W=>ch.wU 97 W;have HPA:Hid (∀b o,A'=some ⟨b,o,none⟩→0<bs.length→b<wb.heap.size):=fun b o e h0=>by
    obtain⟨b1,o1,h1,h2,_⟩:=HP.out 0 h0;rw[e]at h1;cases h1;exact h2
   have HCO:=QH quA;clear quA;obtain⟨ww,hww⟩:∃x,x=wr:=⟨_,rfl⟩;subst hww;rcases HCO.out with⟨hk0,zO⟩|hk0;all_goals
    go_wp2_with fail;clear hk0;try clear zO
    clear HCO;go_loopw [12,13] (fun u i wr=>q37 ww u i wr) (fun _ i _=>31-(intOf i).toNat);case atStart=>exact⟨0,1,by omega,by omega,by omega,rfl,rfl,Below.refl _ _⟩
    case round =>
     obtain⟨j,f,hj,hf1,hf2,rfl,rfl,hb⟩:=hrel;have HV':=QH (HV.out.below H HC hb);have HB':=QH (qc HB.out hb);have HM':Hid (wb.heap.size≤wr.heap.size):=HB'.out.size;have HF:=QH hb;clear hb HV HB HM;have HV:=QH HV'.out;have HB:=QH HB'.out;have HM:=QH HM'.out;clear HV' HB' HM';by_cases hgo:j<bs.length∧j<30
     ·obtain⟨hlt,h30⟩:=hgo;have gp:(j:Int)<(bs.length:Int):=by omega
      have zfI:(j:Int)<30:=by omega
      obtain⟨b,o,rfl,aI,g0⟩:=HP.out j hlt;have c0:wr.cell? ⟨b,o+j,none⟩=some (.bool bs[j]):=by rw[HB.out.cell (p:=⟨b,o+j,none⟩) aI];exact g0
      have l0:b<wr.heap.size:=Nat.lt_of_lt_of_le aI HB.out.size;clear g0;generalize bs[j]=bj at *;cases bj with
      | false =>
       go_wp2_with fail;go_roundw;case rel=>exact⟨j+1,f,by omega,by omega,by omega,by go_num,rfl,HF.out⟩
       case measure=>simp[intOf];omega
      | true =>
       go_wp2_with fail;go_roundw;case rel=>exact⟨j+1,f+1,by omega,by omega,by omega,by go_num,by go_num,HF.out⟩
       case measure=>simp[intOf];omega
     ·have q8K:((j:Int)<(bs.length:Int)∧¬ (j:Int)<30)∨¬ (j:Int)<(bs.length:Int):=by omega
      clear hgo HF;rcases q8K with⟨hj0,hj1⟩|hj0;all_goals
       go_wp2_with fail;refine(qtb H HI HV.out HM.out).mono ?_;rintro e U1 ⟨q,rfl,hv,hb⟩;obtain⟨t,d,m,h1,h2,h3,h4,h5,h6⟩:=hv;have HV1:=QH h1;have jo:=QH h2;have HJ1:=QH h3;have eF:=QH h5;have HSM:=QH h6;have tJ:=QH (qc HB.out hb);clear hb h1 h2 h3 h4 h5 h6 HV HB HM;go_wp2_with fail;refine(iA H (yC HI) HV1.out tJ.out.size (d1:=d.arm (f:Int)) (r:=.tuple #[]) (fun o2 hd _=>dk.qqV hd (f:Int) (by omega))).mono ?_;rintro e U2 ⟨rfl,hv,hk⟩;have HV2:=QH hv;have qcq:=QH (tJ.out.trans (yq hk tJ.out.size));have iG:=QH (HX0.out.below qcq.out);have HJ2:Hid (JJ 400 t (d.arm (f:Int))):=⟨⟨HJ1.out.on,HJ1.out.more,HJ1.out.room,HJ1.out.rb⟩,HJ1.out.is⟩;have HF2:Hid (0≤(d.arm (f:Int)).qu):=by show 0≤max (f:Int) 0;omega
       clear hv hk HV1 tJ HJ1;have q01:=iG.out.lt;have y0:=iG.out.cell 0;have y1:=iG.out.cell 1;have y2:=iG.out.cell 2;simp only[QA,QB,QC]at y0 y1 y2;have uh:=fX H (yC HI) HV2.out qcq.out.size rfl HJ2.out HF2.out jo.out x nx sO hxn qxJ;unfold xX at uh;obtain⟨D2,hD2⟩:=QE (d.arm (f:Int));rw[hD2]at uh HJ2;clear hD2 HF2 HV2;go_wp2_with fail;refine uh.mono ?_;clear uh y0 y1 y2 q01 iG;rintro e U3 ⟨r,D0,m',l',rfl,hv,hk,hq⟩;dsimp only at hv hq ⊢;obtain⟨t',n,hrj,hrn,mU⟩:=qlm jo.out HJ2.out eF.out HSM.out x nx qxJ hq bs;have qiA:=(nj c x nx).2;obtain⟨er,hs⟩:=QE ((zE c x nx).2);obtain⟨c',hc'⟩:=QE ((zE c x nx).1);rw[hc']at hv;rw[hs,hc']at mU;rw[hs]at qiA ⊢;have HV3:=QH hv;have aP:=QH (qcq.out.trans (yq hk qcq.out.size));have HRJ:=QH hrj;have HRN:=QH hrn;clear hv hk hq hrj hrn hs hc' qcq jo HJ2 eF HSM;rcases mU with⟨rfl,hr6,qpH⟩|⟨rfl,hlo,qpH⟩
       ·have hee:(r != r)=false:=by simp
        have h6b:(r == 6)=false:=by rw[beq_eq_false_iff_ne];exact hr6
        have h6c:(r != 6)=true:=by simpa using hr6
        have qxK:=QH qpH;clear qpH qiA hr6;go_wp2_with fail;refine(iA H (yC HI) HV3.out aP.out.size (d1:=D0.off) (r:=.tuple #[]) (fun o2 hd _=>dk.qbp hd)).mono ?_;rintro e U4 ⟨rfl,hv,hk⟩;have HV4:=QH hv;have aQ:=QH (aP.out.trans (yq hk aP.out.size));clear hv hk HV3 aP;go_wp2_with fail;refine(iA H (yC HI) HV4.out aQ.out.size (d1:=D0.off.sZ bs) (r:=.tuple #[]) (fun o2 hd ho=>dk.qdK hd (by decide) rfl A' cp' bs (sG HP.out HPA.out aQ.out) (fun b o e h0 hown=>by
         have h1:=HPA.out b o e h0;have h2:=(ho b hown).1;omega))).mono ?_
        rintro e U5 ⟨rfl,hv,hk⟩;have HV5:=QH hv;have sr:=QH (aQ.out.trans (yq hk aQ.out.size));clear hv hk HV4 aQ;go_wp2_with fail;refine(qi9 H (yC HI) HV5.out sr.out.size HRJ.out rfl HRN.out).mono ?_;rintro e U6 ⟨v',d6,rfl,hv,hj6,_,hk⟩;have HV6:=QH hv;have HJ6:=QH hj6;have qgX:=QH (sr.out.trans (yq hk sr.out.size));clear hv hk hj6 HV5 sr;go_wp2_with fail;refine(qp8 H (yC HI) HV6.out rfl HJ6.out HRN.out).mono ?_;rintro e U7 ⟨b,rfl,hb,iH⟩;rw[hb qxK.out];have qtd:=QH (qc qgX.out iH);clear hb iH;go_wp2_with fail;go_ret;exact⟨rfl,iB.out.trans ((qtd.out).mono iB.out.size)⟩
       ·have hne:((6:Int) != er)=true:=by simpa using fun h=>qiA h.symm
        have qxK:=QH qpH;clear qpH qiA;go_wp2_with fail;refine(qeK H (yC HI) HV3.out aP.out.size hlo).mono ?_;rintro e Ua ⟨rfl,hv,hk⟩;have HVa:=QH hv;have q3A:=QH (aP.out.trans (yq hk aP.out.size));clear hv hk hlo HV3 aP;go_wp2_with fail;refine(HD.out Ua).mono ?_;rintro e Ub ⟨rfl,hb⟩;have HVb:=QH (HVa.out.below H (yC HI) hb);have qte:=QH (qc q3A.out hb);clear hb HVa q3A;go_wp2_with fail;refine(kM (yC HI) HVb.out qte.out.size (fun o1 o2 ho _=>H.bh 0 (wV 97) ho (.inl rfl) (by unfold jd;omega))).mono ?_;rintro e Uc ⟨rc,dc,mc,lc,rfl,hv,hk,hz1,hz2,hz3,hz4⟩;dsimp only at hz2 hz3;subst hz1 hz2 hz3 hz4;have HVc:=QH hv;have qtf:=QH (qte.out.trans (yq hk qte.out.size));clear hv hk HVb qte;go_wp2_with fail;refine(kM (yC HI) HVc.out qtf.out.size (fun o1 o2 ho _=>H.pM ho (.inl rfl))).mono ?_;rintro e U3 ⟨rd,dd,md,ld,rfl,hv,hk,hz1,hz2,hz3,hz4⟩;dsimp only at hz2 hz3;subst hz1 hz2 hz3 hz4;have HV3:=QH hv;have aP:=QH (qtf.out.trans (yq hk qtf.out.size));clear hv hk HVc qtf;go_wp2_with fail;refine(iA H (yC HI) HV3.out aP.out.size (d1:=dd.off) (r:=.tuple #[]) (fun o2 hd _=>dk.qbp hd)).mono ?_;rintro e U4 ⟨rfl,hv,hk⟩;have HV4:=QH hv;have aQ:=QH (aP.out.trans (yq hk aP.out.size));clear hv hk HV3 aP;go_wp2_with fail;refine(iA H (yC HI) HV4.out aQ.out.size (d1:=dd.off.sZ bs) (r:=.tuple #[]) (fun o2 hd ho=>dk.qdK hd (by decide) rfl A' cp' bs (sG HP.out HPA.out aQ.out) (fun b o e h0 hown=>by
         have h1:=HPA.out b o e h0;have h2:=(ho b hown).1;omega))).mono ?_
        rintro e U5 ⟨rfl,hv,hk⟩;have HV5:=QH hv;have sr:=QH (aQ.out.trans (yq hk aQ.out.size));clear hv hk HV4 aQ;go_wp2_with fail;refine(qi9 H (yC HI) HV5.out sr.out.size HRJ.out rfl HRN.out).mono ?_;rintro e U6 ⟨v',d6,rfl,hv,hj6,_,hk⟩;have HV6:=QH hv;have HJ6:=QH hj6;have qgX:=QH (sr.out.trans (yq hk sr.out.size));clear hv hk hj6 HV5 sr;go_wp2_with fail;refine(qp8 H HC (qxI HV6.out) rfl HJ6.out HRN.out).mono ?_;rintro e U7 ⟨b,rfl,hb,iH⟩;have qtd:=QH (qc qgX.out iH);have HV7:=QH (HV6.out.below H (yC HI) iH);have qV:=QH hb;clear hb iH qgX HV6;cases b with
        | true =>
         go_wp2_with fail;go_ret;exact⟨rfl,iB.out.trans ((qtd.out).mono iB.out.size)⟩
        | false =>
         have q8M:Hid (zD t' n=c'):=by
          rcases qxK.out with h|h
          ·exact absurd (qV.out h) (by decide)
          ·exact h
         go_wp2_with fail;refine(qp8 H HC (qxH HV7.out) rfl HJ6.out HRN.out).mono ?_;rintro e U8 ⟨b,rfl,hb,hb8⟩;rw[hb q8M.out];have q8N:=QH (qc qtd.out hb8);clear hb hb8;go_wp2_with fail;go_ret;exact⟨rfl,iB.out.trans ((q8N.out).mono iB.out.size)⟩
end
end Go.Proofs.YtdagdllomphidaaGreatDoor.vt
namespace Go.Proofs.YtdagdllomphidaaGreatDoor.vaultCrash
open _root_.Go.Proofs.Tryz Go.ChangeShapes Go.WideShapes Go.ChangeAt Go.RowKit
open Go.ChangeMaps (open_string shut_string)
open _root_.Go.Proofs.Tryz ib vt
theorem own:ownKnob prog.godebug=none:=by kernel_rfl
theorem laidOut:laidOutB prog=true:=by kernel_rfl
theorem qpI(os:Os)(args:Array Value):laidMet prog Rows.vaultCrashRow.laid ((gW os).forCall (fun _ _=>0) ⟨#[],args,[]⟩).memory :=
 laidMet_of_run3 8 (by kernel_rfl) (by kernel_rfl) (by kernel_rfl)
theorem witness(os:Os){H:Type}(enc:TypeId × Value→H) :
    (OpenSpec.ofChange Rows.vaultCrashSpec).preRow enc prog Tryz.f4 Rows.vaultCrashRow.domain false Rows.vaultCrashRow.laid ((gW os).forCall (fun _ _=>0) ⟨#[],#[.slice none 0 0,.agg #[.int .u8 0,.int .u8 0,.int .u8 0],.slice none 0 0],[]⟩).memory #[.slice none 0 0,.agg #[.int .u8 0,.int .u8 0,.int .u8 0],.slice none 0 0]:=by
 have hw:(DataW.whole enc prog ((gW os).forCall (fun _ _=>0) ⟨#[],#[.slice none 0 0,.agg #[.int .u8 0,.int .u8 0,.int .u8 0],.slice none 0 0],[]⟩).memory Tryz.f4.params.toList (OpenSpec.ofChange Rows.vaultCrashSpec).vars false (#[.slice none 0 0,.agg #[.int .u8 0,.int .u8 0,.int .u8 0],.slice none 0 0]:Array Value).toList 8).map (fun x=>(x.1,x.2.1)) =
     some ([.nil,.agg [.lit (.int .u8 0),.lit (.int .u8 0),.lit (.int .u8 0)],.nil],[]):=by kernel_rfl
 obtain⟨⟨x1,x2,x3⟩,hx,hx1⟩:=Option.map_eq_some_iff.1 hw;simp only[Prod.mk.injEq]at hx1;obtain⟨rfl,rfl⟩:=hx1;exact OpenSpec.preRow_of_cond 8 hx (by kernel_rfl) (fun k hk=>by cases hk) (by kernel_rfl) (qpI os _)
theorem lifted(os:Os)(started:os.Started)(H:Type)(enc:TypeId × Value→H)(F:Stop.Interp) :
    ReturnsInHanded {} Tryz.checked os 4 .any ((OpenSpec.ofChange Rows.vaultCrashSpec).preRow enc prog Tryz.f4 Rows.vaultCrashRow.domain false Rows.vaultCrashRow.laid) (((OpenSpec.ofChange Rows.vaultCrashSpec).at F).post enc prog Tryz.f4 false true false false):=by
 refine returnsInHanded_of_row (C:=Tryz.checked) (s:=OpenSpec.ofChange Rows.vaultCrashSpec) own started (by kernel_rfl) func4
  (witness_row_at (enc:=enc) (C:=Tryz.checked) false (gW os) #[.slice none 0 0,.agg #[.int .u8 0,.int .u8 0,.int .u8 0],.slice none 0 0] rfl (by kernel_rfl) (by kernel_rfl) (by kernel_rfl) (witness os enc)) ?_
 intro W base args ds gs before quB hW _ _ q8O hL _ _;have ht:xL W:=qcu (laidMet.tail hL) (by kernel_rfl);have hval:∀(j:Nat) t v,Tryz.f4.params[j]?=some t→args[j]?=some v→Value.okWide prog W .any base t v:=quB;have hW':=hW;obtain⟨p,q,hA0,hV,rfl,hfz,hnd⟩:=hW;have hA:DataW.TrodAll enc prog W 0 (fun _=>true) true Tryz.f4.params.toList args.toList ds p:=hA0;rw[Tryz.params4]at hA hval;obtain⟨v0,vs0,d0,ds0,p0,q0,zb0,rfl,rfl,h0,r0⟩:=trodAll_cons hA;obtain⟨v1,vs1,d1,ds1,p1,q1,rfl,rfl,rfl,h1,r1⟩:=trodAll_cons r0;obtain⟨v2,vs2,d2,ds2,p2,q2,rfl,rfl,rfl,h2,r2⟩:=trodAll_cons r1;obtain⟨rfl,rfl,rfl⟩:=trodAll_nil r2;obtain rfl:args = #[v0,v1,v2]:=by cases args;simp_all
 obtain⟨rfl,rfl⟩:=trodVars_none hV;obtain⟨a0,l0,c0,rfl⟩:=okWide_slice underlying22 (hval 0 22 v0 rfl rfl);have k0:=h0;have lt0:∀x∈p0,x.block<W.heap.size:=by obtain⟨m,hm⟩:=k0;exact DataW.trod_lt m _ _ _ hm
 obtain⟨zs0,q8P,hl0,hT0⟩:=qxG k0;subst q8P;have k1:=h1;have lt1:∀x∈p1,x.block<W.heap.size:=by obtain⟨m,hm⟩:=k1;exact DataW.trod_lt m _ _ _ hm
 obtain⟨x1,rfl,dk1,dn1⟩:=q35 (hval 1 34 v1 rfl rfl) k1;obtain⟨a2,l2,c2,rfl⟩:=okWide_slice underlying40 (hval 2 40 v2 rfl rfl);have k2:=h2;have lt2:∀x∈p2,x.block<W.heap.size:=by obtain⟨m,hm⟩:=k2;exact DataW.trod_lt m _ _ _ hm
 obtain⟨zs2,q8Q,hl2,hT2⟩:=qpF k2;subst q8Q;clear hA0 quB q8O;simp only[List.append_nil]at hW';refine(nE qi4 ch.pg.qi4 (qlj qi4) a0 c0 zs0 x1 a2 c2 zs2 W hT0 hl0 dk1 dn1 hT2 hl2 ht).mono fun e W' ⟨he,hg⟩=>?_;subst he;exact⟨_,rfl,_,_,_,[],_,[],hW',trodAll_mk1 (shut_bool underlying4 _),(trodAll_cons_mk (Below.trod laidOut (by kernel_rfl) (of_decide_eq_true (by kernel_rfl)) k0 hg lt0) (trodAll_cons_mk (Below.trod laidOut (by kernel_rfl) (of_decide_eq_true (by kernel_rfl)) k1 hg lt1) (trodAll_cons_mk (Below.trod laidOut (by kernel_rfl) (of_decide_eq_true (by kernel_rfl)) k2 hg lt2) trodAll_mk0))),rfl,hg.frame _,fun h=>by cases h⟩
theorem over:Rows.VaultCrashSaid :=
 OpenClaim.holds_of_cond 4 Tryz.f4 rfl rfl rfl rfl rfl rfl rfl ⟨rfl,rfl,rfl,rfl,rfl⟩ rfl rfl rfl rfl rfl (by kernel_rfl) func4 (by kernel_rfl)
  (of_decide_eq_true (by kernel_rfl)) (by unfold Func.isWrapper;first|(rw[if_pos (by decide +kernel)];kernel_rfl)|(rw[if_neg (by decide +kernel)];exact⟨rfl,rfl⟩))
  (fun os started H enc _ F=>by rw[OpenClaim.pre_eq_preRow];exact lifted os started H enc F)
theorem proved:Rows.VaultCrashCardSaid :=
 Claim7.holds_tied_plain_at .later [] [.data,.data,.pinned] true Rows.vaultCrashCard.stood.harness true
  over (fun _ h=>by cases h) (by kernel_rfl) (fun _ h=>by cases h) vaultCrash_row_tie rfl ⟨rfl,rfl⟩ (by kernel_rfl) rfl
  (fun f fn hf hfn=>by
   obtain rfl:f=4:=Option.some.inj ((show prog.funcNamed Rows.vaultCrashRow.func=some 4 by kernel_rfl).symm.trans hf) |>.symm;obtain rfl:fn=Tryz.f4:=(Option.some.inj (func4.symm.trans hfn)).symm;exact⟨by kernel_rfl,fun j t ht=>by
    rw[Tryz.params4]at ht;rcases j with _|j
    ·have:t=22:=by simpa using ht.symm
     subst this;exact(show prog.wantsStandIn 22=false by kernel_rfl)
    rcases j with _|j
    ·have:t=34:=by simpa using ht.symm
     subst this;exact(show prog.wantsStandIn 34=false by kernel_rfl)
    rcases j with _|j
    ·have:t=40:=by simpa using ht.symm
     subst this;exact(show prog.wantsStandIn 40=false by kernel_rfl)
    simp at ht⟩)
  (by kernel_rfl)
#print axioms proved
end Go.Proofs.YtdagdllomphidaaGreatDoor.vaultCrash

/- A vault on a small disk is refused what has no room, and stays as it was. -/
import Derived.Test.YtdagdllomphidaaGreatDoorZF13
import Derived.Test.YtdagdllomphidaaGreatDoorCards
import Derived.Test.YtdagdllomphidaaGreatDoorTie
import Derived.SevenTiedAt
import Derived.ProofKit
import Derived.ShutString
import Derived.SizedLaws
import Derived.ChangeOld
import Derived.SliceStrings
set_option linter.unusedVariables false
set_option linter.unusedSimpArgs false
set_option maxHeartbeats 30000000
set_option maxRecDepth 100000
namespace Go.Proofs.YtdagdllomphidaaGreatDoor.vt
open _root_.Go.Proofs.Tryz Go Go.RowKit ib jr mt im sp
def qtd (w:World)(A:Option Addr)(l:List DoP):Prop :=
 ∀i (h:i<l.length),∃b o,A=some ⟨b,o,none⟩∧b<w.heap.size∧w.cell? ⟨b,o+i*3,none⟩=some (.int .u8 (l[i].k:Int))∧w.cell? ⟨b,o+i*3+1,none⟩=some (.int .u8 (l[i].n:Int))∧w.cell? ⟨b,o+i*3+2,none⟩=some (.int .u8 (l[i].z.toNat:Int))∧l[i].k<256∧l[i].n<256
end Go.Proofs.YtdagdllomphidaaGreatDoor.vt
namespace Go.Proofs.YtdagdllomphidaaGreatDoor
open _root_.Go.Proofs.Tryz Go Go.ChangeShapes Go.WideShapes Go.Deep
theorem fB {H:Type}{enc:TypeId × Value→H}{P:Program}{w:World}{base:Nat}{spare:Nat→Bool}{held:Bool}{t e:TypeId}{fs:Array Field}{fuel:Nat}{cs:List Value}{x:DataW H × List MemPlace}
    (ht:P.underlying t=some (.slice e)) (he:P.underlying e=some (.struct fs)) (qjH:∀(i:Nat) (f:Field),fs[i]?=some f→f.offset=i∧P.cellsOf f.type=1) (ce:P.cellsOf e=fs.size)
    (h:DataW.trod enc P w base spare held fuel t cs=some x) :
    (cs=[.slice none 0 0]∧x=(.nil,[])) ∨
    ∃(a:Addr) (len cap m:Nat),cs=[.slice (some a) len cap]∧base≤a.block∧len≤cap∧cap≤maxLen∧m=(if spare a.block then cap else len) ∧
     ∀i,i<m→∀k f,fs[k]?=some f→∃v y n,w.cell? (a.add (i*fs.size+k))=some v∧DataW.trod enc P w base spare held n f.type [v]=some y:=by
 rcases open_slice ht h with h0|⟨a,len,cap,m,n,D,Pl,rfl,hb,hl,hm,hmm,rfl,hx⟩
 ·exact Or.inl h0
 right
 refine⟨a,len,cap,m,rfl,hb,hl,hm,hmm,fun i hi k f hk=>?_⟩;obtain⟨cs',h1,h2⟩:=hx i hi;rw[ce]at h1;obtain⟨_,hlen,hcell⟩:=World.cells?_some h1;obtain⟨xs,n',_,_,_,aw,hf⟩:=DataW.trod_struct he h2;have hlt:k<fs.size:=(Array.getElem?_eq_some_iff.1 hk).1;obtain⟨ho,hc1⟩:=qjH k f hk;have g:=hf k f hk;rw[ho,hc1,take1_drop cs' k undef (by omega),List.getElem?_eq_getElem (by omega)]at g;have hcl:=hcell k hlt;rw[add_add,List.getElem?_eq_getElem (by omega)]at hcl;refine⟨cs'.getD k undef,_,n',?_,g⟩;rw[hcl];simp[List.getD,List.getElem?_eq_getElem (show k<cs'.length by omega)]
end Go.Proofs.YtdagdllomphidaaGreatDoor
namespace Go.Proofs.YtdagdllomphidaaGreatDoor.vt
open _root_.Go.Proofs.Tryz Go Go.RowKit Go.ChangeShapes Go.WideShapes Go.Deep ib
theorem qow{x:Int}(h:(Lit.int .u8 x).wf=true):∃c:Nat,x=(c:Int)∧c<256:=by
 have hb:=bounds_u8 h;exact⟨x.toNat,by omega,by omega⟩
theorem q1P{x:Int}(h:(Lit.int .u8 x).wf=true):∃c:UInt8,x=(c.toNat:Int):=by
 have hb:=bounds_u8 h;exact⟨UInt8.ofNat x.toNat,by rw[UInt8.toNat_ofNat'];omega⟩
theorem qr5{P:Program}{fs:Array Field}(h:(List.range fs.size).all (fun i=>match fs[i]? with|some f=>decide (f.offset=i)&&decide (P.cellsOf f.type=1)|none=>true)=true):∀(i:Nat) (f:Field),fs[i]?=some f→f.offset=i∧P.cellsOf f.type=1:=by
 intro i f hf;have hi:=(Array.getElem?_eq_some_iff.1 hf).1;have:=List.all_eq_true.1 h i (List.mem_range.2 hi);rw[hf]at this;simpa using this
section
variable {H:Type} {enc:TypeId × Value→H} {w:World} {held:Bool} {a:Option Addr} {l c:Nat} {d:DataW H} {pl:List MemPlace}
theorem qwi(h:DataW.Trod enc prog w 0 (fun _=>true) held 22 (.slice a l c) d pl):∃zs:List DoP,zs.length=l∧l≤9223372036854775807∧qtd w a zs:=by
 obtain⟨fuel,hf⟩:=h;rcases fB underlying22 underlying34 (qr5 (by kernel_rfl)) (by kernel_rfl) hf with⟨hcs,_⟩|⟨x,l',c',m,hcs,_,hl,hm,hmm,hi⟩
 ·simp[Value.cells]at hcs;obtain⟨rfl,rfl,rfl⟩:=hcs;exact⟨[],rfl,by omega,fun i h=>absurd h (by simp)⟩
 ·simp[Value.cells]at hcs;obtain⟨rfl,rfl,rfl⟩:=hcs;simp only[if_true]at hmm;subst hmm;unfold maxLen at hm;obtain⟨zs,hzl,hz⟩:=dc (p:=fun i (z:DoP)=>w.cell? (x.add (i*3))=some (.int .u8 (z.k:Int))∧w.cell? (x.add (i*3+1))=some (.int .u8 (z.n:Int))∧w.cell? (x.add (i*3+2))=some (.int .u8 (z.z.toNat:Int))∧z.k<256∧z.n<256) l (fun i cu=>by
   obtain⟨v0,y0,n0,e0,g0⟩:=hi i (by omega) 0 _ rfl;obtain⟨v1,y1,n1,e1,g1⟩:=hi i (by omega) 1 _ rfl;obtain⟨v2,y2,n2,e2,g2⟩:=hi i (by omega) 2 _ rfl;obtain⟨k0,h0,_,b0⟩:=DataW.trod_int underlying5 g0;obtain⟨k1,h1,_,b1⟩:=DataW.trod_int underlying5 g1;obtain⟨k2,h2,_,b2⟩:=DataW.trod_int underlying5 g2;obtain⟨c0,rfl,l0⟩:=qow b0;obtain⟨c1,rfl,l1⟩:=qow b1;obtain⟨c2,rfl⟩:=q1P b2;obtain rfl:v0=_:=by simpa using h0
   obtain rfl:v1=_:=by simpa using h1
   obtain rfl:v2=_:=by simpa using h2
   exact⟨⟨c0,c1,c2⟩,e0,e1,e2,l0,l1⟩)
  refine⟨zs,hzl,by omega,fun i cu=>?_⟩;have h0:=(hz 0 (by omega)).1;rw[Nat.zero_mul]at h0;obtain⟨b,o,rfl,hb⟩:=qxk h0;have:=hz i cu;rw[addr_add,addr_add,addr_add]at this;simp only[Nat.add_assoc]at this ⊢;exact⟨b,o,rfl,hb,this⟩
end
end Go.Proofs.YtdagdllomphidaaGreatDoor.vt
namespace Go.Proofs.YtdagdllomphidaaGreatDoor.vt
open _root_.Go.Proofs.Tryz Go Go.RowKit ib jr mt im sp
def Was (IC:ch.cy)(q:Nat)(was:ch.CH):ch.cy:=fun own w p c=>∃o3 o4,IC o3 w p c∧IC o4 w q was∧(∀j,o4 j→j≠p)∧∀j,own j↔o3 j∨o4 j
section
variable {IC:ch.cy} (HI:ch.Impl IC) {q:Nat} {was:ch.CH}
include HI
theorem fC {own:Nat→Prop}{w w':World}{p:Nat}{c:ch.CH}{r:ch.CH × Int}{e:Ending}{o3 o4:Nat→Prop}(h2:IC o4 w q was)(h3:∀j,o4 j→j≠p)(h4:∀j,own j↔o3 j∨o4 j)(h:ch.tj IC o3 p r w e w'∧qx (fun j=>j=p) w w'):ch.tj (Was IC q was) own p r w e w':=by
 obtain⟨⟨he,o3',k1,k2,k3⟩,hb⟩:=h;refine⟨he,fun j=>o3' j∨o4 j,⟨o3',o4,k1,HI.keep h2 (fun j hj=>hb.block j (HI.low h2 j hj) (h3 j hj)) hb.size,h3,fun j=>Iff.rfl⟩,k2.mono fun j hj=>(h4 j).2 (.inl hj),fun j hj=>?_⟩;rcases hj with hj|hj
 ·rcases k3 j hj with h|h
  ·exact .inl ((h4 j).2 (.inl h))
  ·exact .inr h
 ·exact .inl ((h4 j).2 (.inr hj))
theorem qr6:ch.Ops (Was IC q was) where
 low:=fun⟨_,_,h1,h2,_,h4⟩ j hj=>by
  rcases(h4 j).1 hj with h|h
  ·exact HI.low h1 j h
  ·exact HI.low h2 j h
 ok:=fun⟨_,_,h1,_⟩=>HI.ok h1
 keep:=fun⟨o3,o4,h1,h2,h3,h4⟩ hb hs=>⟨o3,o4,HI.keep h1 (fun j hj=>hb j ((h4 j).2 (.inl hj))) hs,HI.keep h2 (fun j hj=>hb j ((h4 j).2 (.inr hj))) hs,h3,h4⟩
 write:=fun k s ⟨_,_,h1,h2,h3,h4⟩ hk=>(HI.qme k s h1 hk).mono fun _ _ ha=>fC HI (c:=was) h2 h3 h4 ha
 snap:=fun g ⟨_,_,h1,h2,h3,h4⟩ hg=>(HI.qsf g h1 hg).mono fun _ _ ha=>fC HI (c:=was) h2 h3 h4 ha
 add:=fun g A c x ⟨_,_,h1,h2,h3,h4⟩ hg hx hl _=>(HI.qyl g A c x h1 hg hx hl).mono fun _ _ ha=>fC HI (c:=was) h2 h3 h4 ha
 roll:=fun k ⟨_,_,h1,h2,h3,h4⟩ hk=>(HI.qse k h1 hk).mono fun _ _ ha=>fC HI (c:=was) h2 h3 h4 ha
 kx:=fun g ⟨_,_,h1,h2,h3,h4⟩ hg=>(HI.qsg g h1 hg).mono fun _ _ ha=>fC HI (c:=was) h2 h3 h4 ha
 live:=fun⟨_,_,h1,_⟩=>HI.live h1
 list:=fun⟨_,_,h1,_⟩=>HI.list h1
 read:=fun g ⟨_,_,h1,_⟩ hg=>HI.read g h1 hg
 changes:=fun k ⟨_,_,h1,_⟩ hk=>HI.changes k h1 hk
 at_:=fun⟨_,_,h1,_,_,h4⟩=>(h4 _).2 (.inl (HI.at_ h1))
theorem qr7{IV:yK}(H:yM IV){w:World}{B v pd p:Nat}{X:Nat→Prop}{s:Tri}(h:V3 IV IC w B X v pd p s)(hB:B≤w.heap.size) :
    Calls prog 14 #[.pointer (some ⟨p,0,none⟩)] w fun e w'=>∃q,e=.returned (.pointer (some ⟨q,0,none⟩))∧V3 IV (Was IC q s.c) w' B X v pd p s∧Below w.heap.size w w':=by
 obtain⟨o1,o2,o3,h1,h2,h3,h4,h5⟩:=h;refine(HI.copy h2).mono ?_;rintro e w' ⟨q,o4,rfl,k1,k2,k3⟩;refine⟨q,rfl,⟨o1,o2,fun j=>o3 j∨o4 j,h1.keep H (fun j hj=>k2.block j (h1.low H j hj)) k2.size,⟨o3,o4,HI.keep h2 (fun j hj=>k2.block j (HI.low h2 j hj)) k2.size,k1,fun j hj=>?_,fun j=>Iff.rfl⟩,fun j hj=>⟨(h3 j hj).1,fun ho=>?_,(h3 j hj).2.2⟩,fun j hj=>?_,fun j hj=>Nat.lt_of_lt_of_le (h5.1 j hj) k2.size,h5.2⟩,k2⟩
 ·rcases k3 j hj with h|h
  ·exact h.2
  ·have:=HI.low h2 p (HI.at_ h2);omega
 ·rcases ho with ho|ho
  ·exact(h3 j hj).2.1 ho
  ·rcases k3 j ho with h|h
   ·exact(h3 j hj).2.1 h.1
   ·have:=h1.low H j (.inl hj);omega
 ·rcases hj with hj|hj
  ·exact h4 j hj
  ·rcases k3 j hj with h|h
   ·exact h4 j h.1
   ·exact⟨by omega,fun hx=>by have:=h5.1 j hx;omega⟩
omit HI in
theorem qwk{IV:yK}{w:World}{B v pd p:Nat}{X:Nat→Prop}{s:Tri}(h:V3 IV (Was IC q was) w B X v pd p s):V3 IV IC w B X v pd p s:=by
 obtain⟨o1,o2,o3,h1,⟨a,b,k1,k2,k3,k4⟩,h3,h4,h5⟩:=h;exact⟨o1,o2,a,h1,k1,fun j hj=>⟨(h3 j hj).1,fun ho=>(h3 j hj).2.1 ((k4 j).2 (.inl ho)),(h3 j hj).2.2⟩,fun j hj=>h4 j ((k4 j).2 (.inl hj)),h5⟩
omit HI in
theorem qwl{IV:yK}{w:World}{B v pd p:Nat}{X:Nat→Prop}{s:Tri}(h:V3 IV (Was IC q was) w B X v pd p s):V3 IV IC w B X v pd q ⟨s.d,s.m,was,s.lost⟩:=by
 obtain⟨o1,o2,o3,h1,⟨a,b,k1,k2,k3,k4⟩,h3,h4,h5⟩:=h;exact⟨o1,o2,b,h1,k2,fun j hj=>⟨(h3 j hj).1,fun ho=>(h3 j hj).2.1 ((k4 j).2 (.inr ho)),(h3 j hj).2.2⟩,fun j hj=>h4 j ((k4 j).2 (.inr hj)),h5⟩
end
end Go.Proofs.YtdagdllomphidaaGreatDoor.vt
namespace Go.Proofs.YtdagdllomphidaaGreatDoor.vt
open _root_.Go.Proofs.Tryz Go Go.RowKit ib jr mt im sp
theorem qdK(c:ch.CH)(g:Gd):c.may g=0∨c.may g=2∨c.may g=3:=by
 unfold ch.CH.may;split
 ·split <;> simp
 ·simp
theorem qdL(c:ch.CH)(x:DoP)(next:Nat):(zU c x next).2≠7∧(zU c x next).2≠6:=by
 unfold zU;split
 ·unfold ch.CH.write;split <;> simp
 ·split
  ·unfold ch.CH.snap;split
   ·simp
   ·show c.may (1,next)≠7∧c.may (1,next)≠6;rcases qdK c (1,next)with h|h|h <;> rw[h] <;> exact⟨by decide,by decide⟩
  ·split
   ·unfold ch.CH.roll;split <;> simp
   ·split
    ·unfold ch.CH.kx;split
     ·simp
     ·split
      ·simp
      ·split <;> simp
    ·unfold ch.CH.add;split
     ·split <;> simp
     ·show c.may (1,next)≠7∧c.may (1,next)≠6;rcases qdK c (1,next)with h|h|h <;> rw[h] <;> exact⟨by decide,by decide⟩
section
variable {IV:yK} {IC:ch.cy} (H:yM IV) (HI:ch.Impl IC) {w w':World} {N B v pd p q:Nat} {c:ch.CH}
include H HI
theorem qr8(h:VC IV IC N w B v pd p c)(hB:B≤w.heap.size):Calls prog 14 #[.pointer (some ⟨p,0,none⟩)] w fun e w'=>∃q,e=.returned (.pointer (some ⟨q,0,none⟩))∧VC IV (Was IC q c) N w' B v pd p c∧Below w.heap.size w w':=by
 obtain⟨t,d,m,h1,h2⟩:=h;refine(qr7 HI H h1 hB).mono ?_;rintro e w' ⟨q,rfl,hv,hb⟩;exact⟨q,rfl,⟨t,d,m,hv,h2⟩,hb⟩
theorem qr9(h:VC IV (Was IC q c) N w B v pd p c)(hB:B≤w.heap.size)(x:DoP)(next:Nat)(hk:x.k<256)(hn:x.n<256)(hnx:next<18446744073709551616) :
    Calls prog 11 #[.pointer (some ⟨v,0,none⟩),.pointer (some ⟨p,0,none⟩),.agg (yR x),.int .u64 (next:Int)] w
     fun e w'=>∃r,e=.returned (.tuple #[.int .i64 r,.int .i64 (zU c x next).2])∧Below B w w'∧((r=7∧VC IV IC N w' B v pd q c)∨(r=(zU c x next).2∧r≠7∧VC IV IC N w' B v pd p (zU c x next).1)):=by
 obtain⟨t,d,m,h1,h2,h3,h4,h5,h6⟩:=h;refine(oZ H (qr6 HI) h1 hB rfl h3 (by show 0≤d.qp;omega) h2 x next hk hn hnx).mono ?_;rintro e w' ⟨r,d',m',l',rfl,hv,hke,hq⟩;refine⟨r,rfl,qop hke hB,?_⟩;rcases qjU h2 h3 h5 h4 x next hnx hq with⟨rfl,_,rfl,rfl,rfl⟩|⟨hr,rfl,hf,t',g1,g2,g3,g4⟩
 ·exact .inl ⟨rfl,t,d',m',qwl hv,h2,h3,h4,h5,h6⟩
 ·rw[h6]at hr g4;exact .inr ⟨hr,by rw[hr];exact(qdL c x next).1,t',d',m',qwk hv,g2,g1,hf,g3,g4⟩
end
end Go.Proofs.YtdagdllomphidaaGreatDoor.vt
namespace Go.Proofs.YtdagdllomphidaaGreatDoor.vt
open _root_.Go.Proofs.Tryz Go Go.RowKit ib jr mt im sp
def q1Q (IV:yK)(IC:ch.cy)(N:Nat)(w:World)(vp pd:Nat)(u i:Value)(wr:World):Prop :=
 ∃(k p:Nat) (c:ch.CH),k≤30∧i=.int .i64 (k:Int)∧u=.pointer (some ⟨p,0,none⟩)∧VC IV IC N wr w.heap.size vp pd p c∧Below w.heap.size w wr
theorem ry {IV:yK}{IC:ch.cy}(H:yM IV)(HI:ch.Impl IC)(HW:∀w,xQ w→Calls prog 8 #[] w (tX w))(A:Option Addr)(cp:Nat)(l:List DoP)(rm:Nat)(hrm:rm<256)(w:World)(hT:qtd w A l)(hl:l.length≤9223372036854775807)(ht:xQ w) :
    Calls prog 6 #[.slice A l.length cp,.int .u8 (rm:Int)] w (tX w):=by
 have HT:=QH hT;have wA:=QH ht;clear ht;have HC:=HI.toOps;clear hT;obtain⟨rn,hrn⟩:=QE (rm%20);have hm1:(rm:Int).tmod 20=(rn:Int):=by rw[Int.tmod_eq_emod_of_nonneg (by omega)];omega
 have hm2:(rm:Int)%20=(rn:Int):=by omega
 have zdI:rn<20:=by omega
 obtain⟨N,hN⟩:=QE (193+rn);have hn1:N≤212:=by omega
 have hn2:193≤N:=by omega
 have hw1:IntKind.i64.wrap (193+(rn:Int))=(N:Int):=by rw[IntWalk.i64_in _ (by omega)];omega
 clear hrn hN;go_enter func6,ntmps6;go_wp2_with fail;refine(HW w wA.out).mono ?_;rintro e W0 ⟨rfl,hb0⟩;have xp:=QH hb0;clear hb0;go_wp2_with fail;refine(dk.ux 1000 N 400 (by omega) (by omega) (by decide) (by decide) W0).mono ?_;rintro e W1 ⟨pd,o,rfl,hd,hb1,ho⟩;have qP:=QH (qc xp.out hb1);have HO:Hid (∀j,o j→w.heap.size≤j):=fun j hj=>Nat.le_trans xp.out.size (ho j hj);clear hb1 ho xp;go_wp2_with fail;refine(H.iG 8 N 400 hd (xE wA.out qP.out (zS wA.out)) (fun h=>by have h1:=HO.out _ h;have h2:=zS wA.out;omega) (by decide) (by decide) hn2 (by omega) (by omega)).mono ?_;rintro e W2 ⟨rfl,t,d,o',hd2,hj,hr,hf,yC,ho'⟩;have qy:Hid (Below w.heap.size w W2):=qP.out.trans (yC.below (fun j hj=>HO.out j hj) qP.out.size);have vg:Hid (∀j,o' j→w.heap.size≤j):=fun j hj=>by
  rcases ho' j hj with h|h
  ·exact HO.out j h
  ·have:=qP.out.size;omega
 clear hd yC ho' HO qP;go_wp2_with fail;refine(H.qaB hd2 (xE wA.out qy.out (zS wA.out)) (fun h=>by have h1:=vg.out _ h;have h2:=zS wA.out;omega) hj.toRJ hf hr).mono ?_;rintro e W3 ⟨v,d',o1,o2,rfl,hv,hj',hf',yC,h1',h2'⟩;have qV:Hid (Below w.heap.size w W3):=qy.out.trans (yC.below (fun j hj=>vg.out j hj) qy.out.size);have mG:Hid (∀j,o1 j∨o2 j→w.heap.size≤j):=fun j hj=>by
  have hs:=qy.out.size;rcases hj with hj|hj
  ·have:=h1' j hj;omega
  ·rcases h2' j hj with h|h
   ·exact vg.out j h
   ·omega
 have HN1:Hid (∀(W2:World) (p:Nat) (o3:Nat→Prop),IC o3 W2 p (ch.kP 8)→Below W3.heap.size W3 W2→(∀j,o3 j→W3.heap.size≤j)→VC IV IC N W2 w.heap.size v pd p (ch.kP 8)):=fun W2 p o3 hc hb ho3 =>
  qvQ (w:=w) H HC hv hj' hr hf' mG.out hc hb qV.out.size (zS wA.out) ho3
 clear hv hd2 hj hj' hr hf hf' yC h1' h2' vg mG qy;go_wp2_with fail;refine(HI.ux 8 W3 (by decide) (by decide)).mono ?_;rintro e W4 ⟨p,o3,rfl,hc,hb4,ho3⟩;have HV:=QH (HN1.out W4 p o3 hc hb4 ho3);have zN:=QH (qc qV.out hb4);clear hc hb4 ho3 HN1 qV;go_wp2_with fail;go_loopw [8,9] (fun u i wr=>q1Q IV IC N w v pd u i wr) (fun _ i _=>31-(intOf i).toNat);case atStart=>exact⟨0,p,_,by omega,rfl,rfl,HV.out,zN.out⟩
 case round =>
  clear HV zN;obtain⟨k,p,c,hk,rfl,rfl,hv,hb⟩:=hrel;have HV:=QH hv;have HB:=QH hb;have HM:Hid (w.heap.size≤wr.heap.size):=hb.size;clear hv hb;by_cases hlt:k<l.length
  ·have jD:(k:Int)<(l.length:Int):=by omega
   by_cases h30:k<30
   ·have q6X:(k:Int)<30:=by omega
    go_wp2_with fail;refine(qr8 H HI HV.out HM.out).mono ?_;rintro e W5 ⟨q,rfl,hv5,hb5⟩;have HV5:=QH hv5;have yZ:=QH (qc HB.out hb5);clear hv5 hb5 HV HB HM;obtain⟨b,o,rfl,hbl,g0,g1,g2,rG,hgn⟩:=HT.out k hlt;have c0:W5.cell? ⟨b,o+k*3,none⟩=some (.int .u8 (l[k].k:Int)):=by rw[yZ.out.cell (p:=⟨b,o+k*3,none⟩) hbl];exact g0
    have c1:W5.cell? ⟨b,o+k*3+1,none⟩=some (.int .u8 (l[k].n:Int)):=by rw[yZ.out.cell (p:=⟨b,o+k*3+1,none⟩) hbl];exact g1
    have c2:W5.cell? ⟨b,o+k*3+2,none⟩=some (.int .u8 (l[k].z.toNat:Int)):=by rw[yZ.out.cell (p:=⟨b,o+k*3+2,none⟩) hbl];exact g2
    have l0:b<W5.heap.size:=Nat.lt_of_lt_of_le hbl yZ.out.size;have q6Y:=wrap_u64 (k+1) (by omega);rw[Int.natCast_add]at q6Y;have aZ:=qr9 H HI HV5.out yZ.out.size l[k] (k+1) rG hgn (by omega);unfold yR at aZ;obtain⟨er,hs⟩:=QE ((zU c l[k] (k+1)).2);obtain⟨c',hc'⟩:=QE ((zU c l[k] (k+1)).1);rw[hs,hc']at aZ;clear hs hc' g0 g1 g2 hbl;go_wp2_with fail;refine aZ.mono ?_;clear aZ c0 c1 c2 l0;rintro e W6 ⟨r,rfl,jV,p9⟩;have vQ:=QH (yZ.out.trans jV);clear jV yZ HV5;rcases p9 with⟨rfl,hv6⟩|⟨rfl,hr7,hv6⟩
    ·have HV6:=QH hv6;clear hv6;go_wp2_with fail;refine(qta H HC HV6.out).mono ?_;rintro e W7 ⟨rfl,ed⟩;have HV7:=QH (HV6.out.below H HC ed);have HB7:=QH (qc vQ.out ed);clear ed HV6 vQ;go_wp2_with fail;go_roundw;case rel=>exact⟨k+1,q,c,by omega,by go_num,rfl,HV7.out,HB7.out⟩
     case measure=>simp[intOf];omega
    ·have HV6:=QH hv6;have zdJ:(r == 7)=false:=by rw[beq_eq_false_iff_ne];exact hr7
     have hee:(r != r)=false:=by simp
     clear hv6;go_wp2_with fail;refine(qta H HC HV6.out).mono ?_;rintro e W7 ⟨rfl,ed⟩;have HV7:=QH (HV6.out.below H HC ed);have HB7:=QH (qc vQ.out ed);clear ed HV6 vQ;go_wp2_with fail;go_roundw;case rel=>exact⟨k+1,p,c',by omega,by go_num,rfl,HV7.out,HB7.out⟩
     case measure=>simp[intOf];omega
   ·have q6X:¬ (k:Int)<30:=by omega
    go_wp2_with fail;go_ret;exact⟨rfl,HB.out⟩
  ·have jD:¬ (k:Int)<(l.length:Int):=by omega
   go_wp2_with fail;go_ret;exact⟨rfl,HB.out⟩
end Go.Proofs.YtdagdllomphidaaGreatDoor.vt
namespace Go.Proofs.YtdagdllomphidaaGreatDoor.vaultFull
open _root_.Go.Proofs.Tryz Go.ChangeShapes Go.WideShapes Go.ChangeAt Go.RowKit
open Go.ChangeMaps (open_string shut_string)
open _root_.Go.Proofs.Tryz ib vt
theorem own:ownKnob prog.godebug=none:=by kernel_rfl
theorem laidOut:laidOutB prog=true:=by kernel_rfl
theorem qox(os:Os)(args:Array Value):laidMet prog Rows.vaultFullRow.laid ((gh os).forCall (fun _ _=>0) ⟨#[],args,[]⟩).memory :=
 laidMet_of_run3 8 (by kernel_rfl) (by kernel_rfl) (by kernel_rfl)
theorem witness(os:Os){H:Type}(enc:TypeId × Value→H) :
    (OpenSpec.ofChange Rows.vaultFullSpec).preRow enc prog Tryz.f6 Rows.vaultFullRow.domain false Rows.vaultFullRow.laid ((gh os).forCall (fun _ _=>0) ⟨#[],#[.slice none 0 0,.int .u8 0],[]⟩).memory #[.slice none 0 0,.int .u8 0]:=by
 have hw:(DataW.whole enc prog ((gh os).forCall (fun _ _=>0) ⟨#[],#[.slice none 0 0,.int .u8 0],[]⟩).memory Tryz.f6.params.toList (OpenSpec.ofChange Rows.vaultFullSpec).vars false (#[.slice none 0 0,.int .u8 0]:Array Value).toList 8).map (fun x=>(x.1,x.2.1)) =
     some ([.nil,.lit (.int .u8 0)],[]):=by kernel_rfl
 obtain⟨⟨x1,x2,x3⟩,hx,hx1⟩:=Option.map_eq_some_iff.1 hw;simp only[Prod.mk.injEq]at hx1;obtain⟨rfl,rfl⟩:=hx1;exact OpenSpec.preRow_of_cond 8 hx (by kernel_rfl) (fun k hk=>by cases hk) (by kernel_rfl) (qox os _)
theorem lifted(os:Os)(started:os.Started)(H:Type)(enc:TypeId × Value→H)(F:Stop.Interp) :
    ReturnsInHanded {} Tryz.checked os 6 .any ((OpenSpec.ofChange Rows.vaultFullSpec).preRow enc prog Tryz.f6 Rows.vaultFullRow.domain false Rows.vaultFullRow.laid) (((OpenSpec.ofChange Rows.vaultFullSpec).at F).post enc prog Tryz.f6 false true false false):=by
 refine returnsInHanded_of_row (C:=Tryz.checked) (s:=OpenSpec.ofChange Rows.vaultFullSpec) own started (by kernel_rfl) func6
  (witness_row_at (enc:=enc) (C:=Tryz.checked) false (gh os) #[.slice none 0 0,.int .u8 0] rfl (by kernel_rfl) (by kernel_rfl) (by kernel_rfl) (witness os enc)) ?_
 intro W base args ds gs before qte hW _ _ q6Z hL _ _;have ht:xQ W:=qb1 (laidMet.tail hL) (by kernel_rfl);have hval:∀(j:Nat) t v,Tryz.f6.params[j]?=some t→args[j]?=some v→Value.okWide prog W .any base t v:=qte;have hW':=hW;obtain⟨p,q,hA0,hV,rfl,hfz,hnd⟩:=hW;have hA:DataW.TrodAll enc prog W 0 (fun _=>true) true Tryz.f6.params.toList args.toList ds p:=hA0;rw[Tryz.params6]at hA hval;obtain⟨v0,vs0,d0,ds0,p0,q0,q9x,rfl,rfl,h0,r0⟩:=trodAll_cons hA;obtain⟨v1,vs1,d1,ds1,p1,q1,rfl,rfl,rfl,h1,r1⟩:=trodAll_cons r0;obtain⟨rfl,rfl,rfl⟩:=trodAll_nil r1;obtain rfl:args = #[v0,v1]:=by cases args;simp_all
 obtain⟨rfl,rfl⟩:=trodVars_none hV;obtain⟨a0,l0,c0,rfl⟩:=okWide_slice underlying22 (hval 0 22 v0 rfl rfl);have k0:=h0;have lt0:∀x∈p0,x.block<W.heap.size:=by obtain⟨m,hm⟩:=k0;exact DataW.trod_lt m _ _ _ hm
 obtain⟨zs0,q7a,hl0,hT0⟩:=qwi k0;subst q7a;obtain⟨a1,rfl,rfl,rfl,w1⟩:=open_int underlying5 (hval 1 5 v1 rfl rfl) h1;obtain⟨n1,rfl,wn1⟩:=qow w1;clear hA0 qte q6Z;simp only[List.append_nil]at hW';refine(ry qhy ch.pg.qhy (qjX qhy) a0 c0 zs0 n1 wn1 W hT0 hl0 ht).mono fun e W' ⟨he,hg⟩=>?_;subst he;exact⟨_,rfl,_,_,_,[],_,[],hW',trodAll_mk1 (shut_bool underlying4 _),(trodAll_cons_mk (Below.trod laidOut (by kernel_rfl) (of_decide_eq_true (by kernel_rfl)) k0 hg lt0) (trodAll_cons_mk (shut_int underlying5 w1) trodAll_mk0)),rfl,hg.frame _,fun h=>by cases h⟩
theorem over:Rows.VaultFullSaid :=
 OpenClaim.holds_of_cond 6 Tryz.f6 rfl rfl rfl rfl rfl rfl rfl ⟨rfl,rfl,rfl,rfl,rfl⟩ rfl rfl rfl rfl rfl (by kernel_rfl) func6 (by kernel_rfl)
  (of_decide_eq_true (by kernel_rfl)) (by unfold Func.isWrapper;first|(rw[if_pos (by decide +kernel)];kernel_rfl)|(rw[if_neg (by decide +kernel)];exact⟨rfl,rfl⟩))
  (fun os started H enc _ F=>by rw[OpenClaim.pre_eq_preRow];exact lifted os started H enc F)
theorem proved:Rows.VaultFullCardSaid :=
 Claim7.holds_tied_plain_at .later [] [.data,.data,.pinned] true Rows.vaultFullCard.stood.harness true
  over (fun _ h=>by cases h) (by kernel_rfl) (fun _ h=>by cases h) vaultFull_row_tie rfl ⟨rfl,rfl⟩ (by kernel_rfl) rfl
  (fun f fn hf hfn=>by
   obtain rfl:f=6:=Option.some.inj ((show prog.funcNamed Rows.vaultFullRow.func=some 6 by kernel_rfl).symm.trans hf) |>.symm;obtain rfl:fn=Tryz.f6:=(Option.some.inj (func6.symm.trans hfn)).symm;exact⟨by kernel_rfl,fun j t ht=>by
    rw[Tryz.params6]at ht;rcases j with _|j
    ·have:t=22:=by simpa using ht.symm
     subst this;exact(show prog.wantsStandIn 22=false by kernel_rfl)
    rcases j with _|j
    ·have:t=5:=by simpa using ht.symm
     subst this;exact(show prog.wantsStandIn 5=false by kernel_rfl)
    simp at ht⟩)
  (by kernel_rfl)
#print axioms proved
end Go.Proofs.YtdagdllomphidaaGreatDoor.vaultFull

/- PgMem, PgOne, PgLast, PgList, VgPut, VgStg, VgHid, JCommit. -/
import Derived.Test.YtdpbdkacngaemaaGreatDoorZK17
set_option linter.unusedVariables false
set_option linter.unusedSimpArgs false
set_option maxHeartbeats 30000000
set_option maxRecDepth 100000
namespace Go.Proofs.YtdpbdkacngaemaaGreatDoor.ch.pg
open _root_.Go.Proofs.Tryz Go Go.RowKit ib
section
variable {α β:Type} {f:α→List β} {m:Nat}
theorem qkJ:∀ {l:List α},(∀x∈l,(f x).length=m)→(l.flatMap f).length=l.length*m
 | [],_=>by simp
 | x::l,h=>by
  rw[List.flatMap_cons,List.length_append,qkJ (l:=l) (fun y hy=>h y (by simp[hy])),h x (by simp),List.length_cons,Nat.succ_mul];omega
end
def pad (l:List Bt):List Bt:=l++List.replicate (8-l.length) zz
def vc (l:List Bt):List Value:=(pad l).flatMap Lib.byteCells
theorem qoe{n:Nat}{l:List Bt}(h:gA n l)(h8:n≤8):(pad l).length=8:=by
 unfold pad;rw[List.length_append,List.length_replicate,h.1];omega
theorem qrR{n:Nat}{l:List Bt}(h:gA n l):∀v∈pad l,v.length=32:=by
 intro v hv;rcases List.mem_append.1 hv with h1|h1
 ·exact h.2 v h1
 ·rw[List.eq_of_mem_replicate h1];exact zh
theorem qw4{n:Nat}{l:List Bt}(h:gA n l):∀v∈pad l,(Lib.byteCells v).length=32:=fun v hv=>by rw[Lib.byteCells_length,qrR h v hv]
theorem tv {n:Nat}{l:List Bt}(h:gA n l)(h8:n≤8):(vc l).length=256:=by
 unfold vc;rw[qkJ (qw4 h),qoe h h8]
theorem qrS(l:List Bt):∀u∈vc l,u.oneCell'=true:=by
 intro u hu;obtain⟨s,_,h⟩:=List.mem_flatMap.1 hu;exact Lib.byteCells_one _ u h
theorem qkK(n:Nat)(h8:n≤8):pad (dM n)=List.replicate 8 zz:=by
 unfold pad dM;rw[List.length_replicate,List.replicate_append_replicate]
 congr 1
 omega
theorem qof(n:Nat)(h8:n≤8):vc (dM n)=vc []:=by
 unfold vc;rw[qkK n h8];rfl
def sc (s:Sn):List Value:=vc s.bs++[.int .u64 (s.g.1:Int),.int .u64 (s.g.2:Int),.bool s.hid]
def oC (l:List Sn):List Value:=l.flatMap sc
theorem qrT{n:Nat}{s:Sn}(h:gA n s.bs)(h8:n≤8):(sc s).length=259:=by
 unfold sc;rw[List.length_append,tv h h8];rfl
def z0:Sn:=⟨(0,0),[],false⟩
theorem qog:(prog.info? 172).map (·.size)=some 258:=by kernel_rfl
def xq (n:Nat)(l:List Bt)(v:Value):List Value:=.int .i64 (n:Int)::(vc l++[v])
theorem qoh:(prog.info? 172).map (fun i=>(i.zero,i.size,i.bytes))=some (some (.agg (xq 0 [] (.slice none 0 0)).toArray),258,288):=by kernel_rfl
theorem qdJ{n m:Nat}{l:List Bt}{v:Value}(h:gA n l)(h8:n≤8):(xq m l v).length=258:=by
 unfold xq;rw[List.length_cons,List.length_append,tv h h8];rfl
theorem qkL{n m:Nat}{l:List Bt}{v:Value}(h:gA n l)(h8:n≤8):(xq m l v)[257]?=some v:=by
 unfold xq;rw[show 257=256+1 from rfl,List.getElem?_cons_succ,List.getElem?_append_right (by rw[tv h h8];omega),tv h h8];rfl
def eT (w:World)(v:Value)(l:List Sn):Prop:=∃A c,v=.slice A l.length c∧l.length≤c∧c≤maxLen ∧
 ((A=none∧l.length=0∧c=0)∨∃g cur,A=some ⟨g,0,none⟩∧qh w g 174 cur∧cur.toList.take (l.length*259)=oC l)
theorem eT.of_block{w w':World}{v:Value}{l:List Sn}(h:eT w v l)(hb:∀k,v.ownBlock=some k→w'.heap[k]?=w.heap[k]?):eT w' v l:=by
 obtain⟨A,c,rfl,h1,h2,h3⟩:=h;refine⟨A,c,rfl,h1,h2,?_⟩;rcases h3 with h3|⟨g,cur,rfl,h4,h5⟩
 ·exact .inl h3
 ·exact .inr ⟨g,cur,rfl,h4.of_block (hb g rfl),h5⟩
theorem eT.lt{w:World}{v:Value}{l:List Sn}(h:eT w v l):∀k,v.ownBlock=some k→k<w.heap.size:=by
 obtain⟨A,c,rfl,h1,h2,h3⟩:=h;intro k hk;rcases h3 with⟨rfl,_⟩|⟨g,cur,rfl,h4,h5⟩
 ·cases hk
 ·simp[Value.ownBlock]at hk;subst hk;exact h4.lt
theorem eT.ne{w:World}{v:Value}{l:List Sn}{a:Nat}{t:TypeId}{x:Array Value}(h:eT w v l)(k:qh w a t x)(hn:t≠174):∀j,v.ownBlock=some j→j≠a:=by
 obtain⟨A,c,rfl,h1,h2,h3⟩:=h;intro j hj;rcases h3 with⟨rfl,_⟩|⟨g,cur,rfl,h4,h5⟩
 ·cases hj
 ·simp[Value.ownBlock]at hj;subst hj;exact(kH k h4 hn).symm
theorem eT.cells{w:World}{A:Option Addr}{n c:Nat}{l:List Sn}(h:eT w (.slice A n c) l):n=l.length∧(A=none→n=0)∧∀b,A=some b→∀j u,(oC l)[j]?=some u→w.cell? (b.add j)=some u:=by
 obtain⟨A',c',e,h1,h2,h3⟩:=h;simp only[Value.slice.injEq]at e;obtain⟨rfl,rfl,rfl⟩:=e;rcases h3 with⟨rfl,h0,rfl⟩|⟨g,cur,rfl,hb,yb⟩
 ·exact⟨rfl,(fun _=>h0),fun b hb=>by cases hb⟩
 ·refine⟨rfl,(fun h=>by cases h),fun b e j u hu=>?_⟩;simp only[Option.some.injEq]at e;subst e;rw[addr_add,Nat.zero_add,hb.cell j];rw[← yb,List.getElem?_take]at hu;split at hu
  ·simpa using hu
  ·cases hu
structure dO(w:World)(own:Nat→Prop)(p:Nat)(v:Value)(d:CH):Prop where
 blk:qh w p 172 (xq d.live.length d.live v).toArray
 row:eT w v d.qd
 op:own p
 om:∀k,v.ownBlock=some k→own k
 low:∀k,own k→k<w.heap.size
def Is0:IsT:=fun own w p d=>d.ok∧∃v,dO w own p v d
section
variable {w w':World} {own:Nat→Prop} {p:Nat} {v:Value} {d:CH}
theorem dO.vp(h:dO w own p v d):∀j,v.ownBlock=some j→j≠p:=h.row.ne h.blk (by decide)
theorem dO.keep(h:dO w own p v d)(hs:w.heap.size≤w'.heap.size)(hb:∀k,own k→w'.heap[k]?=w.heap[k]?):dO w' own p v d :=
 ⟨h.blk.of_block (hb _ h.op),h.row.of_block (fun k hk=>hb k (h.om k hk)),h.op,h.om,fun k hk=>Nat.lt_of_lt_of_le (h.low k hk) hs⟩
theorem dO.below(h:dO w own p v d)(hb:Below w.heap.size w w'):dO w' own p v d:=h.keep hb.size (fun k hk=>hb.block k (h.low k hk))
theorem dO.c0(h:dO w own p v d):w.cell? ⟨p,0,none⟩=some (.int .i64 (d.live.length:Int)):=by
 rw[h.blk.cell 0];rfl
theorem dO.c2(h:dO w own p v d)(ho:d.ok):w.cell? ⟨p,257,none⟩=some v:=by
 rw[h.blk.cell 257];simpa using qkL (m:=d.live.length) (v:=v) ho.live ho.n8
theorem eT.below{l:List Sn}(h:eT w v l)(hb:Below w.heap.size w w'):eT w' v l:=h.of_block (fun k hk=>hb.block k (h.lt k hk))
end
end Go.Proofs.YtdpbdkacngaemaaGreatDoor.ch.pg
namespace Go.Proofs.YtdpbdkacngaemaaGreatDoor.ch.pg
open _root_.Go.Proofs.Tryz Go Go.RowKit Go.Sort ib
def yC (l:List Bt):Array Value:=(l.map fun s=>Value.string (str s)).toArray
theorem vw (l:List Bt)(i:Nat)(h:i<l.length):(yC l)[i]?=some (.string (str l[i])):=by simp[yC,h]
theorem qdK(l:List Bt)(i:Nat)(v:Bt):(yC l).setIfInBounds i (.string (str v))=yC (l.set i v):=by
 unfold yC;rw[List.setIfInBounds_toArray,List.map_set]
theorem qdL(n:Nat):madeCells #[.string ByteArray.empty] n=yC (List.replicate n []):=by
 apply Array.ext
 ·simp[size_madeCells,yC]
 ·intro j h1 h2;have e:(yC (List.replicate n []))[j]?=some (.string (str [])):=by
   have hj:j<n:=by simpa[yC]using h2
   rw[vw _ _ (by simpa using hj),List.getElem_replicate]
  rw[Array.getElem?_eq_getElem h2]at e;rw[Option.some.inj e];simp[madeCells,Nat.mod_one];rfl
theorem qdM(n:Nat)(h:n≤1000)(W:World):(Instr.makeSlice 57 (.int .i64 (n:Int)) (.int .i64 (n:Int))).run prog W=.ok (.slice (some ⟨W.heap.size,0,none⟩) n n) (W.alloc (.cells (yC (List.replicate n [])) 9)):=by
 obtain⟨i0,hi,hz0,hz1,hz2⟩:=info_parts Tryz.qiz;have hmk:=run_make (P:=prog) W 57 9 i0 (.string ByteArray.empty) underlying57 hi hz0 .i64 .i64 (n:Int) (n:Int) (by omega) (Int.le_refl _) (by rw[hz2];omega) (by omega);rw[hz1]at hmk;rw[← qdL];simpa[Value.cells]using hmk
theorem qdN{ρ:Operand→Value}{o:Oper}{w:World}(x y:Operand)(n:Nat)(ho:o.op=.makeSlice 57 x y)(hx:ρ x=.int .i64 (n:Int))(hy:ρ y=.int .i64 (n:Int))(h:n≤1000) :
    (execOp ρ o).run prog w=.ok (.value (.slice (some ⟨w.heap.size,0,none⟩) n n)) (w.alloc (.cells (yC (List.replicate n [])) 9)):=by
 simp[execOp,ho,hx,hy,qdM n h w,Result.andThen]
theorem take_set{l:List Bt}{n k:Nat}(hl:l.length=n)(hk:k<n):(l.take k++List.replicate (n-k) []).set k (l[k]'(by omega))=l.take (k+1)++List.replicate (n-(k+1)) []:=by
 rw[List.set_append_right _ _ (by rw[List.length_take];omega),List.length_take,Nat.min_eq_left (by omega),Nat.sub_self,show n-k=(n-(k+1))+1 by omega,List.replicate_succ,List.set_cons_zero,List.take_succ_eq_append_getElem (by omega),List.append_assoc];rfl
end Go.Proofs.YtdpbdkacngaemaaGreatDoor.ch.pg
namespace Go.Proofs.YtdpbdkacngaemaaGreatDoor.vt.pg
open _root_.Go.Proofs.Tryz Go Go.RowKit Go.Sort ib mt im sp
def aK:List Int→List Pl→List Int
 | l,[]=>l
 | l,p::r=>aK (l.set p.1.toNat p.2.1) r
theorem pS:∀(P:List Pl) (l:List Int) (p:Pl),aK l (P++[p])=(aK l P).set p.1.toNat p.2.1
 | [],_,_=>rfl
 | q::P,l,p=>pS P (l.set q.1.toNat q.2.1) p
theorem nc:∀(P:List Pl) (l:List Int),(aK l P).length=l.length
 | [],_=>rfl
 | q::P,l=>by
  show(aK (l.set q.1.toNat q.2.1) P).length=_;rw[nc P,List.length_set]
theorem qfb:∀(x:List (Int × Bt)) (at_:List Int) (l:List Int),aK l (PL x at_)=zU l x at_
 | [],_,_=>by rw[vQ];rfl
 | _::_,[],_=>by rw[aF];rfl
 | (k,s)::r,a::at_,l=>by
  rw[uv];exact qfb r at_ (l.set k.toNat a)
def PuR (G:Nat→Prop)(l:List Int)(P:List Pl)(w:World)(s i:Value)(wr:World):Prop :=
 ∃(k:Nat) (A:Option Addr) (c:Nat),k≤P.length∧i=.int .i64 (k:Int)∧s=.slice A l.length c∧dN G wr A (aK l (P.take k)) c∧Below w.heap.size w wr
theorem ug {G:Nat→Prop}{w:World}{A:Option Addr}{c:Nat}{l:List Int}(hl:dN G w A l c)(h1:0<l.length)(qpL:l.length≤1000){B:Option Addr}{cb:Nat}{P:List Pl}(hP:PlL w B P)(hp:∀p∈P,0≤p.1∧p.1<(l.length:Int)∧0≤p.2.1∧qA p.2.1)(hpl:P.length≤1000)(hG:∀j,w.heap.size≤j→G j) :
    Calls prog 65 #[.slice A l.length c,.slice B P.length cb] w (qg9 G (aK l P) w):=by
 have HL:=QH hl;have HP:=QH hP;have HPP:=QH hp;have HG:=QH hG;clear hl hP hp hG;go_enter func65,ntmps65;go_wp2_with fail;go_loopw [0,9] (fun s i wr=>PuR G l P w s i wr) (fun _ i _=>P.length-(intOf i).toNat);case atStart=>exact⟨0,A,c,Nat.zero_le _,rfl,rfl,HL.out,Below.refl _ _⟩
 case round =>
  obtain⟨k,A1,c1,hk,rfl,rfl,hs,hB⟩:=hrel;have HS:=QH hs;have HB:=QH hB;clear hs hB;by_cases hlt:k<P.length
  ·have ja:(k:Int)<(P.length:Int):=by omega
   have hk0:¬ (k:Int)<0:=by omega
   obtain⟨b,o,rfl,s1,s2,s3,s4⟩:=(HP.out.below HB.out) k hlt;obtain⟨p0,p1,p2,p3⟩:=HPP.out _ (List.getElem_mem hlt);have uh:Hid (aK l (P.take (k+1))=(aK l (P.take k)).set P[k].1.toNat P[k].2.1):=by unfold Hid;rw[List.take_succ_eq_append_getElem hlt,pS]
   obtain⟨x,hx⟩:=QE (P[k]);rw[hx]at s2 s3 s4 p0 p1 p2 p3 uh;clear hx;obtain⟨bk,at_,s⟩:=x;dsimp only at s2 s3 s4 p0 p1 p2 p3 uh;obtain⟨S,hS⟩:=QE (str s);rw[hS]at s4;clear hS;have rS:=nc (P.take k) l;have hw:tY (aK l (P.take k)) bk at_=((aK l (P.take k)).set bk.toNat at_,0):=by
    unfold tY;rw[if_neg (by omega)]
   have uo:=(Below.refl _ wr).alloc (Nat.le_refl _) (.cells #[.int .i64 bk,.int .i64 at_,.string S] 214);have iO:=qh.new wr 214 #[.int .i64 bk,.int .i64 at_,.string S];obtain⟨W2,hW2⟩:=QE (wr.alloc (.cells #[.int .i64 bk,.int .i64 at_,.string S] 214));rw[hW2]at uo iO;have v0:=iO.cell 0;have v1:=iO.cell 1;have hvl:=iO.lt;simp only[QA,QB,QC]at v0 v1;have hwc:=qw2 A1 c1 (aK l (P.take k)) bk at_ W2 (HS.out.at_.below uo) (by omega) (by unfold qA;omega) p3;rw[hw,rS]at hwc;have HWC:=QH hwc;have qG:=QH (qc HB.out uo);have HL1:Hid (((aK l (P.take k)).set bk.toNat at_).length=l.length):=by unfold Hid;rw[List.length_set,rS]
   clear hw hwc uo iO rS p0 p1 p2 p3;go_upto_region 4 with fail;try rw[hW2]
   clear hW2 s1 s2 s3 s4;go_wp2_with fail;refine HWC.out.mono ?_;rintro e W3 ⟨A3,c3,rfl,hn,hb3⟩;have zG:=QH (qc qG.out hb3);have HN:Hid (dN G W3 A3 ((aK l (P.take k)).set bk.toNat at_) c3):=dN.qrl (w0:=w) hn (fun j h1 h2=>HG.out j (Nat.le_trans qG.out.size h1)) (fun b o s e=>by
    obtain⟨b',o',e',_⟩:=hn.ints 0 (by have:=HL1.out;dsimp only;omega);rw[e]at e';injection e' with e'
    injection e')
   have hlen:=HL1.out;dsimp only;rw[hlen];clear hn hb3 HWC hlen;go_wp2_with fail;go_roundw;case rel=>exact⟨k+1,A3,c3,by omega,by go_num,rfl,by rw[uh.out];exact HN.out,zG.out⟩
   case measure=>simp[intOf];omega
  ·obtain rfl:k=P.length:=by omega
   have ja:¬ (P.length:Int)<(P.length:Int):=by omega
   have hs:=HS.out;rw[List.take_length]at hs;have HSS:=QH hs;have tW:=QH (nc P l);clear hs;go_wp2_with fail;go_ret;exact⟨A1,c1,by rw[tW.out];rfl,HSS.out,HB.out⟩
def RdR (t:Tg)(l:List Int)(g:Nat)(w:World)(i:Value)(wr:World):Prop :=
 ∃k:Nat,k≤l.length∧i=.int .i64 (k:Int)∧qh wr g 9 (ch.pg.yC ((qD t l).take k++List.replicate (l.length-k) []))∧ib.qB (fun j=>j=g) w wr
theorem qkM{o1 o2:Nat→Prop}{w:World}{v pd N:Nat}{d:DD}{m:Mt}{lo:Bool}{t:Tg}(h:VP gI w o1 o2 v pd d m lo)(hJ:jr.JJ N t d){A:Option Addr}{c:Nat}{l:List Int}(hl:yU w A l c)(qpL:l.length≤1000)(hz:∀z∈l,z=0∨(193≤z∧z<(N:Int))) :
    Calls prog 88 #[pt v,.slice A l.length c] w (ch.qbc (qD t l,0) w):=by
 have HV:=QH h;have HL:=QH hl;have HZ:=QH hz;have HJ:=QH hJ;have hb1:=(Below.refl _ w).alloc (Nat.le_refl _) (.cells (ch.pg.yC (List.replicate l.length [])) 9);have zQ:=qh.new w 9 (ch.pg.yC (List.replicate l.length []));obtain⟨W1,hW1⟩:=QE (w.alloc (.cells (ch.pg.yC (List.replicate l.length [])) 9));rw[hW1]at hb1 zQ;have qU:=QH hb1;have fT:=QH zQ;have HVL:Hid ((qD t l).length=l.length):=by unfold Hid qD;rw[List.length_map]
 have qoi:Hid (∀W,Calls prog 162 #[.string ⟨#[0]⟩,.int .i64 32] W fun e w'=>e=.returned (.string (str zb))∧Below W.heap.size W w'):=fun W=>by
  have h:=Tryz.strings_Repeat ⟨#[0]⟩ 32 W (by omega) (by decide);have e:(⟨(Lib.repeatL (⟨#[0]⟩:ByteArray).data.toList 32).toArray⟩:ByteArray)=str zb:=by rfl
  rw[e]at h;exact h
 clear h hl hz hJ hb1 zQ;go_enter func88,ntmps88;go_wp2_with (at_make;refine qx rfl (ch.pg.qdN _ _ l.length rfl rfl rfl (by omega)) ?_);try rw[hW1]
 clear hW1;go_loopw [16] (fun i wr=>RdR t l w.heap.size W1 i wr) (fun i _=>l.length-(intOf i).toNat);case atStart=>exact⟨0,Nat.zero_le _,rfl,by simpa using fT.out,ib.qB.refl _ _⟩
 case round =>
  obtain⟨k,hk,rfl,jH,hU⟩:=hrel;have vU:=QH jH;have HU:=QH hU;have HB:Hid (Below w.heap.size w wr):=qU.out.trans (hU.below (fun i e=>by rw[e];exact Nat.le_refl _) qU.out.size);clear jH hU;by_cases hlt:k<l.length
  ·have ja:(k:Int)<(l.length:Int):=by omega
   have hk0:¬ (k:Int)<0:=by omega
   obtain⟨b,o,rfl,s1,s2,s3⟩:=HL.out.ints k hlt;have q1:=Nat.lt_of_lt_of_le s1 HB.out.size;have q2:=(HB.out.cell (p:=⟨b,o+k,none⟩) s1).trans s2;have hzz:=HZ.out _ (List.getElem_mem hlt);have hvl:k<(qD t l).length:=by rw[HVL.out];exact hlt
   have HVK:Hid ((qD t l)[k]=bj t l[k]):=by unfold Hid;simp[qD]
   have HTS:=QH (ch.pg.take_set (l:=qD t l) (n:=l.length) HVL.out hlt);obtain⟨z,hz⟩:=QE (l[k]);rw[hz]at q2 hzz HVK;have f1:=vU.out.frozen k;have jQ:=vU.out.lt;obtain⟨u,hu⟩:∃u,wr.cell? ⟨w.heap.size,k,none⟩=some u:=by
    rw[vU.out.cell k,ch.pg.vw _ _ (by rw[List.length_append,List.length_take,List.length_replicate,HVL.out];omega)];exact⟨_,rfl⟩
   have HST:Hid (∀W (s:Bt),qh W w.heap.size 9 (ch.pg.yC ((qD t l).take k++List.replicate (l.length-k) []))→ib.qB (fun j=>j=w.heap.size) W1 W→bj t z=s→qh (W.setCell ⟨w.heap.size,k,none⟩ (.string (str s))) w.heap.size 9 (ch.pg.yC ((qD t l).take (k+1)++List.replicate (l.length-(k+1)) []))∧ib.qB (fun j=>j=w.heap.size) W1 (W.setCell ⟨w.heap.size,k,none⟩ (.string (str s)))):=fun W s h1 h2 h3=>by
    refine⟨?_,h2.setCell _ _ (.inl rfl)⟩;have h:=h1.qu k (.string (str s));have e:s=(qD t l)[k]:=by rw[HVK.out];exact h3.symm
    have e2:((qD t l).take k++List.replicate (l.length-k) []).set k s=(qD t l).take (k+1)++List.replicate (l.length-(k+1)) []:=by rw[e];exact HTS.out
    rw[ch.pg.qdK,e2]at h;exact h
   clear s1 s2 s3 hz hvl HVK HTS;by_cases h0:z=0
   ·subst h0;have hvz:bj t 0=zb:=by unfold bj;rw[if_pos rfl]
    have HVZ:=QH hvz;clear hvz hzz;go_wp2_with fail;refine(qoi.out wr).mono ?_;rintro e W2 ⟨rfl,hb2⟩;have wj:=QH (vU.out.below hb2);have HU2:Hid (ib.qB (fun j=>j=w.heap.size) W1 W2):=HU.out.trans (S':=fun _=>False) (ib.qB.of_below hb2) (fun _ h=>h.elim);obtain⟨hk3,hu3⟩:=HST.out W2 zb wj.out HU2.out HVZ.out;have og:=QH hk3;have HU3:=QH hu3;have f1:=wj.out.frozen k;have jQ:=wj.out.lt;obtain⟨u,hu⟩:∃u,W2.cell? ⟨w.heap.size,k,none⟩=some u:=by
     rw[wj.out.cell k,ch.pg.vw _ _ (by rw[List.length_append,List.length_take,List.length_replicate,HVL.out];omega)];exact⟨_,rfl⟩
    obtain⟨S,hS⟩:=QE (str zb);rw[hS]at og HU3 ⊢;clear hb2 hk3 hu3 HST HVZ hS qoi;go_wp2_with fail;go_roundw;case rel=>exact⟨k+1,by omega,by go_num,og.out,HU3.out⟩
    case measure=>simp[intOf];omega
   ·have hzr:193≤z∧z<(N:Int):=by
       rcases hzz with h|h
       ·exact absurd h h0
       ·exact h
    have hvz:bj t z=t z:=by unfold bj;rw[if_neg h0]
    have HVZ:=QH hvz;have hV2:=qT HV.out HB.out;obtain⟨p1,p2,p3⟩:=qk6 hV2;have eI:=eN hV2.dk z;rw[sZ HJ.out z (by omega) hzr.2]at eI;unfold dk.uY at eI;have iG:=QH eI;dsimp only at iG;have hz0:(z == 0)=false:=beq_false_of_ne h0;clear hvz hzz hV2 eI hzr h0;go_wp2_with fail;refine iG.out.mono ?_;rintro e W2 ⟨rfl,hb2⟩;have wj:=QH (vU.out.below hb2);have HU2:Hid (ib.qB (fun j=>j=w.heap.size) W1 W2):=HU.out.trans (S':=fun _=>False) (ib.qB.of_below hb2) (fun _ h=>h.elim);obtain⟨hk3,hu3⟩:=HST.out W2 (t z) wj.out HU2.out HVZ.out;have og:=QH hk3;have HU3:=QH hu3;have f1:=wj.out.frozen k;have jQ:=wj.out.lt;obtain⟨u,hu⟩:∃u,W2.cell? ⟨w.heap.size,k,none⟩=some u:=by
     rw[wj.out.cell k,ch.pg.vw _ _ (by rw[List.length_append,List.length_take,List.length_replicate,HVL.out];omega)];exact⟨_,rfl⟩
    obtain⟨S,hS⟩:=QE (str (t z));rw[hS]at og HU3 ⊢;clear hb2 hk3 hu3 HST HVZ hS qoi iG;go_wp2_with fail;go_roundw;case rel=>exact⟨k+1,by omega,by go_num,og.out,HU3.out⟩
    case measure=>simp[intOf];omega
  ·obtain rfl:k=l.length:=by omega
   have ja:¬ (l.length:Int)<(l.length:Int):=by omega
   have HT:Hid (TxL wr (some ⟨w.heap.size,0,none⟩) (qD t l)):=fun i hi=>⟨w.heap.size,0,rfl,vU.out.lt,by
    have hvl:=HVL.out;rw[Nat.zero_add,vU.out.cell i,ch.pg.vw _ _ (by rw[List.length_append,List.length_take];omega)];rw[List.getElem_append_left (by rw[List.length_take];omega),List.getElem_take]⟩
   have oa:=QH vU.out.lt;clear vU qoi;go_wp2_with fail;go_ret2;refine⟨_,l.length,by dsimp only;rw[HVL.out];rfl,HT.out,fun b o e=>?_,HB.out⟩;simp only[Option.some.injEq,Addr.mk.injEq,and_true]at e;obtain⟨rfl,_⟩:=e;exact⟨Nat.le_refl _,oa.out⟩
end Go.Proofs.YtdpbdkacngaemaaGreatDoor.vt.pg
namespace Go.Proofs.YtdpbdkacngaemaaGreatDoor.vt.pg
open _root_.Go.Proofs.Tryz Go Go.RowKit ib mt im sp
def nd (f:Tk)(A:Option Addr)(n c:Nat):Array Value:=#[.int .u64 (f.base.1:Int),.int .u64 (f.base.2:Int),.int .u64 (f.target.1:Int),.int .u64 (f.target.2:Int),.int .i64 f.next,.int .i64 f.all,.slice A n c]
theorem ar {W:World}{g:Nat}{A0 A1 A2 A:Option Addr}{c0 c1 c2 c:Nat}{m:Mt}(t:Tk)(h:qh W g 96 (zw A0 A1 A2 c0 c1 c2 m)):qh (xF W g (.slice A t.qp.length c) t) g 96 (zw A0 A1 A c0 c1 c { m with tok:=t }):=by
 have h9:=((((((h.qu 2 (.int .u64 (t.base.1:Int))).qu 3 (.int .u64 (t.base.2:Int))).qu 4 (.int .u64 (t.target.1:Int))).qu 5 (.int .u64 (t.target.2:Int))).qu 6 (.int .i64 t.next)).qu 7 (.int .i64 t.all)).qu 8 (.slice A t.qp.length c);simp only[zw,List.setIfInBounds_toArray,List.set_cons_succ,List.set_cons_zero]at h9;exact h9
theorem qb2{G:Nat→Prop}{W:World}{g:Nat}{v:Value}{t:Tk}(hg:∀j,G j→j≠g):vq G W (xF W g v t):=by
 refine⟨by simp[xF,World.setCell],fun j hj _=>?_⟩;have hn:=hg j hj;unfold xF;rw[qw _ _ _ _ _ hn,qw _ _ _ _ _ hn,qw _ _ _ _ _ hn,qw _ _ _ _ _ hn,qw _ _ _ _ _ hn,qw _ _ _ _ _ hn,qw _ _ _ _ _ hn]
theorem qdO(w W:World)(g:Nat)(v:Value)(t:Tk)(h:ib.qB (fun j=>j=g) w W):ib.qB (fun j=>j=g) w (xF W g v t) :=
 ((((((h.setCell ⟨g,2,none⟩ _ (.inl rfl)).setCell ⟨g,3,none⟩ _ (.inl rfl)).setCell ⟨g,4,none⟩ _ (.inl rfl)).setCell ⟨g,5,none⟩ _ (.inl rfl)).setCell ⟨g,6,none⟩ _ (.inl rfl)).setCell ⟨g,7,none⟩ _ (.inl rfl)).setCell ⟨g,8,none⟩ _ (.inl rfl)
theorem tx {W0 W:World}{g:Nat}{v:Value}{t:Tk}(h:Below W0.heap.size W0 W)(hg:W0.heap.size≤g):Below W0.heap.size W0 (xF W g v t) :=
 ((((((h.setCell (p:=⟨g,2,none⟩) hg _).setCell (p:=⟨g,3,none⟩) hg _).setCell (p:=⟨g,4,none⟩) hg _).setCell (p:=⟨g,5,none⟩) hg _).setCell (p:=⟨g,6,none⟩) hg _).setCell (p:=⟨g,7,none⟩) hg _).setCell (p:=⟨g,8,none⟩) hg _
structure TkB(t:Tk):Prop where
 base:zV t.base
 target:zV t.target
 next:qA t.next
 all:qA t.all
theorem qb3{G:Nat→Prop}{W0 w:World}{g pb:Nat}{m:Mt}{t:Tk}{A:Option Addr}{c:Nat}(hb:Below W0.heap.size W0 w)(hg:W0.heap.size≤g)(hN:Nx G w g m)(hp:qh W0 pb 82 (nd t A t.qp.length c))(hl:yU W0 A t.qp c)(h1:t.qp.length≤1000)(hB:TkB t)(hG:∀j,W0.heap.size≤j→G j) :
    Calls prog 148 #[pt g,pt pb] w (qn4 G g { m with tok:=t } w):=by
 obtain⟨A0,A1,A2,c0,c1,c2,hk,ht⟩:=hN.ex;have hpw:=hp.below hb;have hb2:=tx (v:=.slice A t.qp.length c) (t:=t) hb hg;have tU:=QH (hp.below hb2);have HC:=QH (vR A c t.qp _ (hl.below hb2) h1);have hk2:=ar (A:=A) (c:=c) t hk;have ht2:kj (fun j=>G j∧j≠g) (xF w g (.slice A t.qp.length c) t) A0 A1 A2 c0 c1 c2 m:=ht.stay (qb2 fun j hj=>hj.2);have wj:=QH hk2;have HT2:=QH ht2;have qG:=QH (qdO w w g (.slice A t.qp.length c) t (ib.qB.refl _ w));have HLE:Hid (W0.heap.size≤w.heap.size∧g<w.heap.size∧w.heap.size≤(xF w g (.slice A t.qp.length c) t).heap.size):=⟨hb.size,hk.lt,qG.out.size⟩;have HG:=QH hG;have HZ:=QH (hl.ints.mem);have HTB:=QH hB;have p0:=hpw.cell 0;have p1:=hpw.cell 1;have p2:=hpw.cell 2;have p3:=hpw.cell 3;have p4:=hpw.cell 4;have p5:=hpw.cell 5;have p6:=hpw.cell 6;have k2:=hk.cell 2;have k3:=hk.cell 3;have k4:=hk.cell 4;have k5:=hk.cell 5;have k6:=hk.cell 6;have k7:=hk.cell 7;have k8:=hk.cell 8;have f2:=hk.frozen 2;have f3:=hk.frozen 3;have f4:=hk.frozen 4;have f5:=hk.frozen 5;have f6:=hk.frozen 6;have f7:=hk.frozen 7;have f8:=hk.frozen 8;have jQ:=hk.lt;have hpl:=hpw.lt;simp only[zw,nd,QA,QB,QC]at k2 k3 k4 k5 k6 k7 k8 p0 p1 p2 p3 p4 p5 p6;clear hb hg hN hp hl hG hB hk ht hpw hb2 hk2 ht2 h1;go_enter func148,ntmps148;go_upto_region 1 with fail;show Code.wp _ _ _ _ (xF w g (.slice A t.qp.length c) t);obtain⟨W1,hW1⟩:=QE (xF w g (.slice A t.qp.length c) t);rw[hW1]at tU HC wj HT2 qG HLE ⊢;clear hW1 p0 p1 p2 p3 p4 p5 p6 k2 k3 k4 k5 k6 k7 k8 f2 f3 f4 f5 f6 f7 f8 jQ hpl;have q6:=tU.out.cell 6;have fS:=tU.out.lt;simp only[nd,QA,QB,QC]at q6;go_wp2_with fail;refine HC.out.mono ?_;rintro e W2 fR;obtain rfl:=fR.1;have hb3:=fR.2.2;have hk3:=wj.out.below hb3;have hle:=HLE.out;have hs:=fR.sl HZ.out (fun j=>G j∧j≠g) ⟨HG.out _ (by omega),by omega⟩;have ht3:=HT2.out.below hb3;have hbb:=HTB.out;have HN2:Hid (Nx G (W2.setCell ⟨g,8,none⟩ (.slice (some ⟨W1.heap.size,0,none⟩) t.qp.length t.qp.length)) g { m with tok:=t }) :=
  ⟨A0,A1,_,c0,c1,_,by have:=hk3.qu 8 (.slice (some ⟨W1.heap.size,0,none⟩) t.qp.length t.qp.length);simpa[zw]using this,(kj.mk (m:={ m with tok:=t }) ht3.live ht3.qd ht3.room hs hbb.base hbb.target hbb.next hbb.all).stay (gJ fun j hj=>hj.2)⟩
 have zG:Hid (ib.qB (fun j=>j=g) w (W2.setCell ⟨g,8,none⟩ (.slice (some ⟨W1.heap.size,0,none⟩) t.qp.length t.qp.length))):=(qG.out.trans (ib.qB.of_below (S:=fun _=>False) hb3) (fun _ h=>h.elim)).setCell _ _ (.inl rfl);have k8:=hk3.cell 8;have f8:=hk3.frozen 8;have jQ:=hk3.lt;simp only[zw,QA,QB,QC]at k8;clear fR hb3 hk3 hs ht3 HC wj HT2 tU qG hle hbb q6 fS;go_wp2_with fail
 go_end0
 exact⟨rfl,HN2.out,zG.out⟩
theorem ng {G:Nat→Prop}{w:World}{t:Tk}{A:Option Addr}{c:Nat}(hl:yU w A t.qp c)(h1:t.qp.length≤1000)(hB:TkB t)(hG:∀j,w.heap.size≤j→G j) :
    Calls prog 72 #[.agg (nd t A t.qp.length c)] w (MkP G (fun m m'=>m'={ m with tok:=t }) w):=by
 have HB:=QH ((Below.refl w.heap.size w).alloc (Nat.le_refl _) (.cells (nd t A t.qp.length c) 82));have HK:=QH (qh.new w 82 (nd t A t.qp.length c));have HL:=QH hl;have HG:=QH hG;have HTB:=QH hB;obtain⟨W1,hW1⟩:=QE (w.alloc (.cells (nd t A t.qp.length c) 82));rw[hW1]at HB HK;unfold nd at hW1;clear hl hG hB;unfold nd;go_enter func72,ntmps72;go_wp2_with fail;try rw[hW1]
 go_ret;refine⟨_,rfl,fun m m' hR=>?_,HB.out⟩;subst hR;exact⟨_,_,rfl,fun a W=>by go_simp,fun W g hb hg hN=>qb3 hb hg hN HK.out (HL.out.below HB.out) h1 HTB.out (fun j hj=>HG.out j (Nat.le_trans HB.out.size hj))⟩
end Go.Proofs.YtdpbdkacngaemaaGreatDoor.vt.pg
namespace Go.Proofs.YtdpbdkacngaemaaGreatDoor.jr
open _root_.Go.Proofs.Tryz Go Go.RowKit dk wi
theorem vV {w w':World}{a:Option Addr}{bs:List (List Wr)}(h:qbo w a bs)(hb:Below w.heap.size w w'):qbo w' a bs:=fun i hi=>by
 obtain⟨b,o,A,c,h1,h2,h3,h4⟩:=h i hi;exact⟨b,o,A,c,h1,Nat.lt_of_lt_of_le h2 hb.size,by rw[hb.cell (p:=⟨b,o+i,none⟩) h2];exact h3,h4.below hb (Nat.le_refl _)⟩
theorem qdP{W:World}{A2 A5 A:Option Addr}{r c2 c5 cl n:Nat}{ly l1 l:List Wr}(h1:ly.length=r)(h2:l1.length=n)(k1:kV W A2 ly)(k2:kV W A5 l1)(k3:kV W A l) :
    qbo (W.alloc (.cells #[.slice A2 r c2,.slice A5 n c5,.slice A l.length cl] 89)) (some ⟨W.heap.size,0,none⟩) [ly,l1,l]:=by
 subst h1 h2;have hB:=qh.new W 89 #[.slice A2 ly.length c2,.slice A5 l1.length c5,.slice A l.length cl];have hb:=(Below.refl W.heap.size W).alloc (Nat.le_refl _) (.cells #[.slice A2 ly.length c2,.slice A5 l1.length c5,.slice A l.length cl] 89);intro i hi
 match i,hi with
 | 0,_=>exact⟨W.heap.size,0,A2,c2,rfl,by simp,hB.cell 0,k1.below hb (Nat.le_refl _)⟩
 | 1,_=>exact⟨W.heap.size,0,A5,c5,rfl,by simp,hB.cell 1,k2.below hb (Nat.le_refl _)⟩
 | 2,_=>exact⟨W.heap.size,0,A,cl,rfl,by simp,hB.cell 2,k3.below hb (Nat.le_refl _)⟩
 | i+3,h=>exact absurd h (by simp only[List.length_cons,List.length_nil];omega)
def aM (a r:Nat)(A8:Option Addr)(c8:Nat)(S:ByteArray)(A:Option Addr)(cl:Nat)(l:List Wr)(ly:List Wr)(hd:Bt):Nat→Value→World→Prop
 | 0,v,_=>v=.agg #[.int .i64 ((1-a:Nat):Int),.int .i64 (r:Int)]
 | 1,v,_=>v=.slice A8 r c8
 | 2,v,W=>∃A2 c2,v=.slice A2 r c2∧kV W A2 ly
 | 3,v,_=>v=.agg #[.int .i64 ((1-a:Nat):Int),.int .i64 (r:Int)]
 | 4,v,_=>v=.agg #[.int .i64 0,.string S]
 | 5,v,W=>∃A2 c2,v=.slice A2 1 c2∧kV W A2 [(0,hd)]
 | 6,v,_=>v=.slice A l.length cl
 | 7,v,W=>∃b,v=.slice (some ⟨b,0,none⟩) 3 3∧qbo W (some ⟨b,0,none⟩) [ly,[(0,hd)],l]
 | 8,v,W=>∃b,v=.slice (some ⟨b,0,none⟩) 3 3∧qbo W (some ⟨b,0,none⟩) [ly,[(0,hd)],l]
 | _,_,_=>True
theorem qhh{a r:Nat}{A8:Option Addr}{c8:Nat}{S:ByteArray}{A:Option Addr}{cl:Nat}{l ly:List Wr}{hd:Bt}(i:Nat)(v:Value)(w w':World)(hi:i<9)(h:aM a r A8 c8 S A cl l ly hd i v w)(hb:Below w.heap.size w w'):aM a r A8 c8 S A cl l ly hd i v w':=by
 match i,hi,h with
 | 0,_,h | 1,_,h | 3,_,h | 4,_,h | 6,_,h=>exact h
 | 2,_,⟨A2,c2,h1,h2⟩=>exact⟨A2,c2,h1,h2.below hb (Nat.le_refl _)⟩
 | 5,_,⟨A2,c2,h1,h2⟩=>exact⟨A2,c2,h1,h2.below hb (Nat.le_refl _)⟩
 | 7,_,⟨b,h1,h2⟩=>exact⟨b,h1,vV h2 hb⟩
 | 8,_,⟨b,h1,h2⟩=>exact⟨b,h1,vV h2 hb⟩
 | j+9,hi,_=>exact absurd hi (by omega)
theorem tA (x y z:List Wr):(qC [x,y,z]).length=x.length+y.length+z.length+3:=by simp[qC,jo];omega
section
variable {most:Nat} {w:World} {own:Nat→Prop} {p:Nat} {d:DD}
theorem cd (HW:qk4)(HR:qk5)(h:zH most w own p d)(hn:145<d.n)(A:Option Addr)(cl:Nat)(l:List Wr)(hwl:kV w A l)(rS:l.length≤1000000)(ht:xK w)(hm:d.more.length+150≤most)(yT:most≤100000) :
    Calls prog 103 #[.pointer (some ⟨p,0,none⟩),.slice A l.length cl] w (xp most own p (zS d l).2 (.int .i64 (zS d l).1) w):=by
 have HD:=QH h;have HP:=QH (eL h);have nK:=QH (qbv h A cl l hwl rS);have hpl:p<w.heap.size:=by obtain⟨_,_,_,hd⟩:=h;exact hd.1.lt
 have q1f:d.n≤1024:=h.1.n1;have HT:=QH ht;have hg:=ht.1;have HH:=QH HR;have HHW:=QH HW;have qw9:=QH hwl;clear ht HR HW h hwl;obtain⟨R,hR⟩:=QE (zS d l);rw[hR];unfold zS at hR;cases zW:d.on with
 | false =>
  rw[zW]at HP;rw[if_pos zW]at hR;subst hR;go_enter func103,ntmps103;go_wp2_with (go_at_call 116;refine HP.out.mono ?_;rintro e w' ⟨rfl,rfl⟩);go_ret;exact xi HD.out (Below.refl _ _)
 | true =>
 rw[zW]at HP;rw[if_neg (by rw[zW];simp)]at hR;by_cases hl0:l.length=0
 ·rw[if_pos hl0]at hR;subst hR;have hl0':((l.length:Int) == 0)=true:=by simp[hl0]
  go_enter func103,ntmps103;go_wp2_with (go_at_call 116;refine HP.out.mono ?_;rintro e w' ⟨rfl,rfl⟩);go_ret;exact xi HD.out (Below.refl _ _)
 rw[if_neg hl0]at hR;have hl0':((l.length:Int) == 0)=false:=by simp only[beq_eq_false_iff_ne,ne_eq];omega
 by_cases qrJ:60<l.length
 ·rw[if_pos qrJ]at hR;subst hR;have qwA:(60:Int)<(l.length:Int):=by omega
  go_enter func103,ntmps103;go_wp2_with (go_at_call 116;refine HP.out.mono ?_;rintro e w' ⟨rfl,rfl⟩);go_ret;exact xi HD.out (Below.refl _ _)
 rw[if_neg qrJ]at hR;have qwA:¬ (60:Int)<(l.length:Int):=by omega
 cases hps:uG d.n l with
 | false =>
  rw[hps]at nK;rw[if_pos hps]at hR;subst hR;go_enter func103,ntmps103;go_wp2_with (go_at_call 116;refine HP.out.mono ?_;rintro e w' ⟨rfl,rfl⟩);refine nK.out.mono ?_;rintro e W1 ⟨rfl,b1⟩;go_wp2_with fail;go_ret;exact xi HD.out b1
 | true =>
 rw[hps]at nK;rw[if_neg (by rw[hps];simp)]at hR;have hall:=gz hps;have hsm:∀x∈l,x.1<65536∧x.2.length=32:=fun x hx=>by have:=hall x hx;exact⟨by omega,this.2.2⟩
 obtain⟨s1,s72⟩:=ax l (by omega) hsm;have qvw:=vP l (by omega) hsm;have cD:=QH hR;have HON:=QH zW;have qwB:=QH hall;clear hR zW hps hall hsm;go_enter func103,ntmps103;go_wp2_with (go_at_call 116;refine HP.out.mono ?_;rintro e w' ⟨rfl,rfl⟩);refine nK.out.mono ?_;rintro e W1 ⟨rfl,b1⟩;have qU:=QH b1;clear b1 nK;go_wp2_with fail;refine(HH.out most W1 own p d (HD.out.below qU.out) HON.out (by omega)).mono ?_;intro e W2 yB;obtain⟨b2,⟨a,c,hq,rfl⟩|⟨hq,x,y,rfl⟩⟩:=gP yB;rotate_left
 ·have ua:=cD.out;rw[hq]at ua;dsimp only at ua;subst ua;have qG:=QH (qc qU.out b2);clear yB b2 hq cD;go_wp2_with fail;go_ret;exact xi HD.out (zD qG.out _)
 have ua:=cD.out;rw[hq]at ua;dsimp only at ua;obtain⟨ha,hc,_⟩:=kx hq;rw[if_neg (by omega)]at ua;have qG:=QH (qc qU.out b2);clear b2 yB hq cD;have cD:=QH ua;clear ua;have nN:qh (W2.alloc (.cells #[.int .i64 (a:Int),.int .i64 (c:Int)] 188)) W2.heap.size _ _:=qh.new W2 _ _;have HK6:=QH nN;have zG:=QH (zD qG.out (.cells #[.int .i64 (a:Int),.int .i64 (c:Int)] 188));clear nN;go_wp2_with fail;refine(ug A cl l _ (qw9.out.below zG.out (Nat.le_refl _)) (by omega) (fun x hx=>by have:=qwB.out x hx;exact⟨by omega,this.2.2⟩)).mono ?_;rintro e W4 ⟨rfl,b4⟩;have zY:=QH (qc zG.out b4);have qrW:Hid (qh W4 W2.heap.size _ _):=HK6.out.of_block (b4.block _ HK6.out.lt);clear b4 HK6;go_wp2_with fail;refine(bR (str (ze l)) W4 (by rw[qO];omega) (HT.out.below zY.out hg)).mono ?_;rintro e W5 ⟨v8,rfl,hos,b5⟩;rw[zn]at hos;obtain⟨A8,c8,rfl,_,_,hsa,_,_⟩:=hos.view;have HSA:=QH hsa;have jU:=QH (qc zY.out b5);have nN:qh W5 W2.heap.size _ _:=qrW.out.of_block (b5.block _ qrW.out.lt);clear hos hsa b5 qrW;have qwC:=QH (qX (qJ (ze l)) (1+(1-a)*72));have hb8:yF a l=[lay (1-a) (qJ (ze l)),[(0,jR (1-a) (qJ (ze l)).length)],l]:=rfl;rw[hb8]at cD;clear hb8;have qpM:=QH (fun(W:World) (hsw:yM W A8 (qJ (ze l)))=>kh (1-a) (qJ (ze l)).length (by omega) A8 c8 (qJ (ze l)) W hsw (by omega));have hly:(lay (1-a) (qJ (ze l))).length=(qJ (ze l)).length:=qwC.out;have qwD:∀x∈lay (1-a) (qJ (ze l)),qA x.1:=fun x hx=>by
  obtain⟨i,g1,g2,_⟩:=jf _ _ _ hx;unfold qA;have:(1-a)*72≤72:=by omega
  omega
 have qwE:=QH qwD;have qrX:=QH (fun(W:World)=>HHW.out (1-a) (qJ (ze l)).length W (by omega) s72);clear qwD qwC HHW;have HHL:=QH (kP (show 1-a<2 by omega) s72).1;generalize lay (1-a) (qJ (ze l))=ly at *;generalize jR (1-a) (qJ (ze l)).length=hd at *;generalize hrr:(qJ (ze l)).length=r at *;have HLY:=QH hly;have q60:=nN.cell 0;have lt6:=nN.lt;have qaT:(1:Int)-(a:Int)=((1-a:Nat):Int):=by omega
 have zaI:(r:Int)≤72:=by omega
 have hrw:¬ (72:Int)<(r:Int):=by omega
 have q1g:=QH qaT;clear hly nN qaT;go_wp2_with fail;have hhl:hd.length=32:=HHL.out;obtain⟨w0,hw0⟩:=QE (W5.alloc (.cells #[.int .i64 (1-(a:Int)),.int .i64 (r:Int)] 188));have qrZ:qh w0 W5.heap.size 188 #[.int .i64 (1-(a:Int)),.int .i64 (r:Int)]:=by rw[← hw0];exact qh.new W5 _ _
 rw[q1g.out]at qrZ;have qsa:Below W5.heap.size W5 w0:=by rw[← hw0];exact(Below.refl W5.heap.size W5).alloc (Nat.le_refl _) _
 rw[hw0];have jT:=QH (qc jU.out qsa);have qwF:=QH qrZ;obtain⟨S,hS⟩:=QE (str hd);rw[hS]at qrX;have HSS:=QH hS;have HWR:=qrX;have qnv:∀W,Below w0.heap.size w0 W→Calls prog 181 #[.agg #[.int .i64 ((1-a:Nat):Int),.int .i64 (r:Int)],.slice A8 r c8] W fun e W'=>∃A2 c2,e=.returned (.slice A2 r c2)∧kV W' A2 ly∧Below W.heap.size W W':=fun W hb=>by
  refine(qpM.out W ((HSA.out.below qsa (Nat.le_refl _)).below hb (Nat.le_refl _))).mono ?_;rintro e W' ⟨v,rfl,ho,hb'⟩;obtain⟨A2,c2,rfl,hw2⟩:=ho.view qwE.out;exact⟨A2,c2,by rw[HLY.out],hw2,hb'⟩
 have qkN:=QH qnv;have qwG:∀W,Below w0.heap.size w0 W→kV W A l:=fun W hb=>qw9.out.below (qc jT.out hb) (Nat.le_refl _);have HWL:=QH qwG;clear hw0 qrZ qsa hS qrX qpM qnv qwG q60 lt6 hhl;generalize qkO:W5.heap.size=g10 at *;clear qkO;refine xX (by kernel_rfl) [55,56,57,58,59,60,61,62,11] (by kernel_rfl) (fun L vs W=>Below w0.heap.size w0 W∧∀i,L i=true→i<9→aM a r A8 c8 S A cl l ly hd i (vs i) W) ⟨(Below.refl w0.heap.size w0).drew,fun i hi=>by cases hi⟩ ?_ ?_ ?_
 ·intro i o L vs ρ W ho cE qf hρ hgd hI;obtain⟨hb,cS⟩:=hI;have hG:∀j,L j=true→aM a r A8 c8 S A cl l ly hd j (vs j) W:=fun j hj=>by
   by_cases h9:j<9
   ·exact cS j hj h9
   ·match j,h9 with
    | j+9,_=>exact trivial
  have hi9:i<9:=(Array.getElem?_eq_some_iff.1 ho).1;have hc:=hρ.const;have hfn:=hρ.fn;have next:∀v W',Below W.heap.size W W'→aM a r A8 c8 S A cl l ly hd i v W'→Below w0.heap.size w0 W'∧∀j,qN L i j=true→j<9→aM a r A8 c8 S A cl l ly hd j (zZ vs i v j) W':=fun v W' h1 h2=>by
   refine⟨qc hb h1,fun j hj h9=>?_⟩;by_cases uR:j=i
   ·subst uR;simpa[zZ]using h2
   ·simp only[qN,if_neg uR]at hj;simpa[zZ,uR]using qhh j _ W W' h9 (cS j hj h9) h1
  have hK:qh W g10 _ _:=qwF.out.of_block (hb.block _ qwF.out.lt);have q0:=hK.cell 0;have q1:=hK.cell 1;have zaM:=hK.lt;clear hK;rcases i with _|_|_|_|_|_|_|_|_|i;all_goals (first|omega|skip)
  all_goals simp only[QA,QB,QC,Option.some.injEq]at ho
  all_goals subst ho
  ·have o10:ρ (.tmp 10)=.pointer (some ⟨g10,0,none⟩):=hρ.out 10 rfl;exact qa (w':=W) (by unfold execOp;simp only[o10];go_simp) (next _ _ (Below.refl _ _) rfl)
  ·have o8:ρ (.tmp 8)=.slice A8 r c8:=hρ.out 8 rfl;exact qa (w':=W) (by unfold execOp;simp only[o8];go_simp) (next _ _ (Below.refl _ _) rfl)
  ·have g55:aM a r A8 c8 S A cl l ly hd 0 (vs 0) W:=hG 0 (qf 0 (by kernel_rfl));have s55:ρ (.tmp 55)=.agg #[.int .i64 ((1-a:Nat):Int),.int .i64 (r:Int)]:=(hρ.at_ 55 0 rfl).trans g55;have g56:aM a r A8 c8 S A cl l ly hd 1 (vs 1) W:=hG 1 (qf 1 (by kernel_rfl));have s56:ρ (.tmp 56)=.slice A8 r c8:=(hρ.at_ 56 1 rfl).trans g56;refine qi (f:=181) (args:=#[.agg #[.int .i64 ((1-a:Nat):Int),.int .i64 (r:Int)],.slice A8 r c8]) (w':=W) (by unfold execOp;simp only[hfn,s55,s56];go_simp) ((qkN.out W hb).mono ?_);rintro x W' ⟨A2,c2,rfl,hw2,hb'⟩;exact⟨_,rfl,next _ _ hb' ⟨A2,c2,rfl,hw2⟩⟩
  ·have o10:ρ (.tmp 10)=.pointer (some ⟨g10,0,none⟩):=hρ.out 10 rfl;exact qa (w':=W) (by unfold execOp;simp only[o10];go_simp) (next _ _ (Below.refl _ _) rfl)
  ·have g58:aM a r A8 c8 S A cl l ly hd 3 (vs 3) W:=hG 3 (qf 3 (by kernel_rfl));have s58:ρ (.tmp 58)=.agg #[.int .i64 ((1-a:Nat):Int),.int .i64 (r:Int)]:=(hρ.at_ 58 3 rfl).trans g58;refine qi (f:=179) (args:=#[.agg #[.int .i64 ((1-a:Nat):Int),.int .i64 (r:Int)]]) (w':=W) (by unfold execOp;simp only[hfn,s58];go_simp) ((HWR.out W).mono ?_);rintro x W' ⟨rfl,hb'⟩;exact⟨_,rfl,next _ _ hb' rfl⟩
  ·have g59:aM a r A8 c8 S A cl l ly hd 4 (vs 4) W:=hG 4 (qf 4 (by kernel_rfl));have s59:ρ (.tmp 59)=.agg #[.int .i64 0,.string S]:=(hρ.at_ 59 4 rfl).trans g59;exact qa (v:=.slice (some ⟨W.heap.size,0,none⟩) 1 1) (w':=W.alloc (.cells #[.int .i64 0,.string S] 105)) (by unfold execOp;simp only[s59];go_simp) (next _ _ ((Below.refl _ _).alloc (Nat.le_refl _) _) ⟨_,1,rfl,by rw[← HSS.out];exact qbx 0 hd (by unfold qA;omega)⟩)
  ·have o1:ρ (.tmp 1)=.slice A l.length cl:=hρ.out 1 rfl;exact qa (w':=W) (by unfold execOp;simp only[o1];go_simp) (next _ _ (Below.refl _ _) rfl)
  ·obtain⟨A2,c2,g57,hw2⟩:aM a r A8 c8 S A cl l ly hd 2 (vs 2) W:=hG 2 (qf 2 (by kernel_rfl));have s57:ρ (.tmp 57)=.slice A2 r c2:=(hρ.at_ 57 2 rfl).trans g57;obtain⟨A5,c5,g60,hw5⟩:aM a r A8 c8 S A cl l ly hd 5 (vs 5) W:=hG 5 (qf 5 (by kernel_rfl));have s60:ρ (.tmp 60)=.slice A5 1 c5:=(hρ.at_ 60 5 rfl).trans g60;have g61:aM a r A8 c8 S A cl l ly hd 6 (vs 6) W:=hG 6 (qf 6 (by kernel_rfl));have s61:ρ (.tmp 61)=.slice A l.length cl:=(hρ.at_ 61 6 rfl).trans g61;exact qa (v:=.slice (some ⟨W.heap.size,0,none⟩) 3 3) (w':=W.alloc (.cells #[.slice A2 r c2,.slice A5 1 c5,.slice A l.length cl] 89)) (by unfold execOp;simp only[s57,s60,s61];go_simp) (next _ _ ((Below.refl _ _).alloc (Nat.le_refl _) _) ⟨_,rfl,qdP HLY.out rfl hw2 hw5 (HWL.out W hb)⟩)
  ·obtain⟨b,g62,q1m⟩:aM a r A8 c8 S A cl l ly hd 7 (vs 7) W:=hG 7 (qf 7 (by kernel_rfl));have s62:ρ (.tmp 62)=.slice (some ⟨b,0,none⟩) 3 3:=(hρ.at_ 62 7 rfl).trans g62;exact qa (w':=W) (by unfold execOp;simp only[s62];go_simp) (next _ _ (Below.refl _ _) ⟨b,rfl,q1m⟩)
 ·intro i o L vs W j want ho cE qf hg hv hI;have hi9:i<9:=(Array.getElem?_eq_some_iff.1 ho).1;rcases i with _|_|_|_|_|_|_|_|_|i;all_goals (first|omega|skip)
  all_goals simp only[QA,QB,QC,Option.some.injEq]at ho
  all_goals subst ho
  all_goals simp only[reduceCtorEq]at hg
 intro vs W9 hI;obtain⟨b9,hG⟩:=hI;obtain⟨b,g8,hbs⟩:aM a r A8 c8 S A cl l ly hd 8 (vs 8) W9:=hG 8 (by decide) (by decide);have HB9:=QH (jT.out.trans (b9.mono jT.out.size));have HBS:=QH hbs;simp only[qZ,qM,if_true];rw[g8];generalize vs 0=x0 at *;generalize vs 1=x1 at *;generalize vs 2=x2 at *;generalize vs 3=x3 at *;generalize vs 4=x4 at *;generalize vs 5=x5 at *;generalize vs 6=x6 at *;generalize vs 7=x7 at *;clear hG g8 b9 hbs;go_wp2_with fail;have hbl:∀m∈[ly,[(0,hd)],l],m.length≤1000:=fun m hm2=>by
  simp only[List.mem_cons,List.not_mem_nil,or_false]at hm2;rcases hm2 with rfl|rfl|rfl
  ·rw[HLY.out];omega
  ·simp
  ·omega
 have yc:=QH hbl;clear hbl;refine(kJ (some ⟨b,0,none⟩) 3 [ly,[(0,hd)],l] W9 HBS.out (by simp) yc.out).mono ?_;rintro e W10 ⟨v10,rfl,qwH,b10⟩;obtain⟨A10,c10,rfl,hints⟩:=qwH.view (fun z hz=>by
  simp only[placesOf,List.flatten_cons,List.flatten_nil,List.map_append,List.mem_append,List.mem_map,List.map_nil,List.not_mem_nil,or_false]at hz;rcases hz with⟨x,hx,rfl⟩|⟨x,hx,rfl⟩|⟨x,hx,rfl⟩
  ·exact qwE.out x hx
  ·obtain rfl:x=_:=by simpa using hx
   unfold qA;dsimp only;omega
  ·have:=qwB.out x hx;unfold qA;omega)
 have HI:=QH hints;have qwI:=QH (qc HB9.out b10);have qpO:=QH (vV HBS.out b10);have hzl:=vT [ly,[(0,hd)],l] yc.out;simp only[List.length_cons,List.length_nil]at hzl;clear qwH hints b10 HBS;go_wp2_with fail;refine(vd (HD.out.below qwI.out) A10 c10 _ HI.out (by omega)).mono ?_;rintro e W11 ⟨rfl,b11⟩;have qok:=QH (qc qwI.out b11);have qwJ:=QH (vV qpO.out b11);clear b11 qpO;cases qjE:d.fits (placesOf [ly,[(0,hd)],l])with
 | false =>
  have ua:=cD.out;rw[if_pos qjE]at ua;subst ua;go_wp2_with fail;go_ret;exact xi HD.out qok.out
 | true =>
  have ua:=cD.out;rw[if_neg (by rw[qjE];simp)]at ua;have q1q:=QH ua;clear ua cD;go_wp2_with fail;refine(gM p _ 3 [ly,[(0,hd)],l] _ (Nat.lt_of_lt_of_le hpl qok.out.size) qwJ.out (by simp) yc.out).mono ?_;rintro e W12 ⟨v,rfl,hgg⟩;have HG:=QH hgg;clear hgg;go_wp2_with fail;refine(eM (HD.out.below qok.out) HG.out (by rw[tA,HLY.out];simp;omega) yT).mono ?_;rintro e W13 yB;have HPO:=QH (xp.from yB qok.out HD.out.low);obtain⟨rfl,_⟩:=yB;rw[q1q.out]at HPO ⊢;go_wp2_with fail;go_ret;exact HPO.out
end
end Go.Proofs.YtdpbdkacngaemaaGreatDoor.jr

/- StPure, StMem, StAb, StMay, StRMay, StChk, RvLast, RvAsked, RvTake, StPureW, VtStep, VtPtP, ChData, ChMem, ChRound, ChSeq, ChFolM, RvPure, RvData, RvMem, RvRound, RvSeq, RvGuid, RvSource, SlcF, RvArgs, DkArgs, RvMade, RvV2. -/
import Derived.Test.YtdpbdkacngaemaaGreatDoorZF8
set_option linter.unusedVariables false
set_option linter.unusedSimpArgs false
set_option maxHeartbeats 30000000
set_option maxRecDepth 100000
namespace Go.Proofs.YtdpbdkacngaemaaGreatDoor.st
open _root_.Go.Proofs.Tryz Go Go.RowKit wi mt
abbrev Ch:=Int × List UInt8
structure Pa where
 base:Gd
 target:Gd
 fr:Int
 all:Int
 zR:List Ch
 deriving DecidableEq
def pa0:Pa:=⟨(0,0),(0,0),0,0,[]⟩
def uj:Int→List Ch→Bool
 | _,[]=>true
 | least,c::r=>decide (least≤c.1)&&decide (c.1<8)&&decide (c.2.length=32)&&uj (c.1+1) r
def may (l:List Ch):Bool:=uj 0 l
def qkF (p:Pa):Bool:=!above p.target p.base || decide (p.all<0) || decide (8<p.all) || decide (p.fr<0) || decide (p.all<p.fr+p.zR.length) || decide (2<p.zR.length) || (decide (p.zR.length=0)&&decide (0<p.all)) || !may p.zR
def xz (p:Pa):Int:=if qkF p=true then 2 else 0
def lq (b t:Gd)(l:List Ch)(fr:Int):Bool:=!above t b || !may l || decide (fr<0) || decide (max (l.length:Int) 1≤fr)
def sT (b t:Gd)(l:List Ch)(fr:Int):Pa × Int:=if lq b t l fr=true then(pa0,2)else(⟨b,t,fr,l.length,(l.drop fr.toNat).take 2⟩,0)
def chB (c:Ch):List UInt8:=xI c.1++bB c.2
def qkG (l:List Ch):List UInt8:=l.flatMap chB
def headB (p:Pa):List UInt8:=jS p.base++(jS p.target++(xI p.fr++(xI p.all++zu p.zR.length)))
def rD (p:Pa):List UInt8:=headB p++qkG p.zR
def qwM (p:Pa):List UInt8 × Int:=if xz p≠0 then([],2)else(dR (rD p),0)
def qil (s:St):List UInt8 × St:=match s with
 | none=>([],none)
 | some l=>match jb l with
  | none=>([],none)
  | some (t,r)=>(t,some r)
def rCh (s:St):Ch × St:=((((min (zX s).1 99:Nat):Int),(qil (zX s).2).1),(qil (zX s).2).2)
def qkH:Nat→St→List Ch × St
 | 0,s=>([],s)
 | n+1,s=>((rCh s).1::(qkH n (rCh s).2).1,(qkH n (rCh s).2).2)
def rP (s:St):Pa × St :=
 let b:=kS s;let t:=kS b.2;let f:=zX t.2;let a:=zX f.2;let n:=zX a.2;let c:=qkH (min n.1 9) n.2
 (⟨b.1,t.1,((min f.1 99:Nat):Int),((min a.1 99:Nat):Int),c.1⟩,c.2)
def q1O (s:List UInt8):Pa × Int:=match qne s with
 | none=>(pa0,4)
 | some l=>if qwM (rP (some l)).1=(s,0)then((rP (some l)).1,0)else(pa0,4)
theorem nz:∀ {l:List Ch} {k:Int},uj k l=true→∀c∈l,k≤c.1∧c.1<8∧c.2.length=32
 | [],_,_,c,hc=>absurd hc (by simp)
 | x::r,k,h,c,hc=>by
  unfold uj at h;simp only[Bool.and_eq_true,decide_eq_true_eq]at h;obtain⟨⟨⟨h1,h2⟩,h3⟩,h4⟩:=h;rcases List.mem_cons.1 hc with rfl|hc
  ·exact⟨h1,h2,h3⟩
  ·have:=nz h4 c hc;omega
structure Ok(p:Pa):Prop where
 all:0≤p.all∧p.all≤8
 fr:0≤p.fr∧p.fr+p.zR.length≤p.all
 few:p.zR.length≤2
 zR:∀c∈p.zR,0≤c.1∧c.1<8∧c.2.length=32
theorem dz {p:Pa}(h:xz p=0):Ok p:=by
 unfold xz at h;split at h
 ·cases h
 ·rename_i h1;unfold qkF at h1;simp only[Bool.or_eq_true,not_or,Bool.not_eq_true,decide_eq_true_eq]at h1;obtain⟨⟨⟨⟨⟨⟨⟨_,e1⟩,e2⟩,e3⟩,e4⟩,e5⟩,_⟩,e7⟩:=h1;simp only[decide_eq_false_iff_not,Bool.not_eq_false']at *;exact⟨by omega,by omega,by omega,nz e7⟩
theorem qkI(t:List UInt8)(h:t.length<18446744073709551616)(r:List UInt8):qil (some (bB t++r))=(t,some r):=by
 unfold qil;simp only[nD t h]
theorem qsF(c:Ch)(h:0≤c.1∧c.1<8∧c.2.length=32)(r:List UInt8):rCh (some (chB c++r))=(c,some r):=by
 obtain⟨z,t⟩:=c;dsimp only at h;unfold rCh chB xI;dsimp only;rw[List.append_assoc,yC _ (by omega)];simp only;rw[qkI _ (by omega),Nat.min_eq_left (by omega),Int.toNat_of_nonneg h.1]
theorem qef:∀(l:List Ch) (_:∀c∈l,0≤c.1∧c.1<8∧c.2.length=32) (r:List UInt8),qkH l.length (some (qkG l++r))=(l,some r)
 | [],_,r=>rfl
 | c::l,h,r=>by
  have e:qkG (c::l)++r=chB c++(qkG l++r):=by simp[qkG]
  show qkH (l.length+1) (some (qkG (c::l)++r))=_;rw[e];unfold qkH;rw[qsF c (h c (by simp))];simp only;rw[qef l (fun x hx=>h x (by simp[hx])) r]
theorem qwN(p:Pa)(hb:xB p.base)(ht:xB p.target)(h:Ok p):rP (some (rD p))=(p,some []):=by
 obtain⟨h1,h2,h3,h4⟩:=h;unfold rP rD headB;simp only[List.append_assoc];rw[uZ _ hb];simp only;rw[uZ _ ht];simp only;unfold xI;rw[yC _ (by omega)];simp only;rw[yC _ (by omega)];simp only;rw[yC _ (by omega)];simp only;have hc:=qef p.zR h4 [];rw[List.append_nil]at hc;rw[Nat.min_eq_left (show p.zR.length≤9 by omega),hc,Nat.min_eq_left (show p.fr.toNat≤99 by omega),Nat.min_eq_left (show p.all.toNat≤99 by omega),Int.toNat_of_nonneg h2.1,Int.toNat_of_nonneg h1.1]
theorem qwO{p:Pa}(h:xz p=0):qwM p=(dR (rD p),0):=by
 unfold qwM;rw[if_neg (by rw[h];decide)]
theorem qa8{p:Pa}(hb:xB p.base)(ht:xB p.target)(h:xz p=0):q1O (dR (rD p))=(p,0):=by
 unfold q1O;rw[qcV];dsimp only;rw[qwN p hb ht (dz h)];dsimp only;rw[if_pos (qwO h)]
end Go.Proofs.YtdpbdkacngaemaaGreatDoor.st
namespace Go.Proofs.YtdpbdkacngaemaaGreatDoor.st
open _root_.Go.Proofs.Tryz Go Go.RowKit ib wi mt
open ch (kR xK xe jQ)
@[go_sem] theorem q6x (a c:Int) (b d:ByteArray) (w:World):(Op.equalIn 10000 122 (.agg #[.int .i64 a,.string b]) (.agg #[.int .i64 c,.string d])).run prog w=.ok (a == c&&b.toList == d.toList) w:=by
 have u3:=underlying3;have a3:=isAgg3;have z3:=sizeOf3;have u4:=underlying9;have a4:=isAgg9;have z4:=sizeOf9;rw[show(10000:Nat)=9999+1 from rfl,run_equalIn_agg w 9999 122 _ _ (by kernel_rfl) (by kernel_rfl)];simp only[Program.fieldsOf,underlying122];go_simp;by_cases h1:a=c <;> by_cases h2:b.toList=d.toList <;> simp[h1,h2]
abbrev pt (b:Nat):Value:=.pointer (some ⟨b,0,none⟩)
def jg (p:Pa)(A:Option Addr)(c:Nat):Array Value:=#[.int .u64 (p.base.1:Int),.int .u64 (p.base.2:Int),.int .u64 (p.target.1:Int),.int .u64 (p.target.2:Int),.int .i64 p.fr,.int .i64 p.all,.slice A p.zR.length c]
structure az(w:World)(A:Option Addr)(c:Nat)(p:Pa):Prop where
 zR:kR w A p.zR
 base:xB p.base
 target:xB p.target
 fr:kA p.fr
 all:kA p.all
theorem az.below{w w':World}{A:Option Addr}{c:Nat}{p:Pa}(h:az w A c p)(hb:Below w.heap.size w w'):az w' A c p:=⟨h.zR.below hb,h.base,h.target,h.fr,h.all⟩
def qwP (w:World)(v:Value)(p:Pa):Prop:=∃A c,v=.agg (jg p A c)∧az w A c p
theorem qwP.below{w w':World}{v:Value}{p:Pa}(h:qwP w v p)(hb:Below w.heap.size w w'):qwP w' v p:=by
 obtain⟨A,c,h1,h2⟩:=h;exact⟨A,c,h1,h2.below hb⟩
def qi9 (r:Pa × Int)(w:World)(e:Ending)(w':World):Prop:=∃A c,e=.returned (.tuple #[.agg (jg r.1 A c),.int .i64 r.2])∧az w' A c r.1∧wa w w' A∧Below w.heap.size w w'
def qu9 (r:List UInt8 × Int)(w:World)(e:Ending)(w':World):Prop:=e=.returned (.tuple #[.string (str r.1),.int .i64 r.2])∧Below w.heap.size w w'
theorem bU:xB ((0,0):Gd):=⟨by decide,by decide⟩
theorem q6y(w:World):az w none 0 pa0:=⟨kR.nil _ _,bU,bU,by unfold kA pa0;decide,by unfold kA pa0;decide⟩
end Go.Proofs.YtdpbdkacngaemaaGreatDoor.st
namespace Go.Proofs.YtdpbdkacngaemaaGreatDoor.st
open _root_.Go.Proofs.Tryz Go Go.RowKit Go.Sort ib wi mt
open ch (kR xK xe jQ)
theorem qwQ(a b:Gd)(w:World):Calls prog 158 #[gv a,gv b] w (uC (above a b) w):=by
 obtain⟨a1,a2⟩:=a;obtain⟨b1,b2⟩:=b;have HR:Hid (above (a1,a2) (b1,b2)=(decide ((b1:Int)<(a1:Int)) || (decide ((a1:Int)=(b1:Int))&&decide ((b2:Int)<(a2:Int))))):=by
  unfold Hid above;simp[Int.ofNat_inj]
 show Calls prog 158 #[.agg #[.int .u64 (a1:Int),.int .u64 (a2:Int)],.agg #[.int .u64 (b1:Int),.int .u64 (b2:Int)]] w _;obtain⟨r,hr⟩:=QE (above (a1,a2) (b1,b2));rw[hr]at HR ⊢;generalize (a1:Int)=x1 at *;generalize (a2:Int)=x2 at *;generalize (b1:Int)=y1 at *;generalize (b2:Int)=y2 at *;clear hr;have hB1:=(Below.refl w.heap.size w).alloc (Nat.le_refl _) (.cells #[.int .u64 x1,.int .u64 x2] 38);have HB:=QH (hB1.alloc hB1.size (.cells #[.int .u64 y1,.int .u64 y2] 38));clear hB1;by_cases h1:y1<x1
 ·have HT:Hid (r=true):=by unfold Hid;rw[HR.out];simp[h1]
  clear HR;go_enter func158,ntmps158;go_wp2_with fail;go_ret;rw[HT.out];exact⟨rfl,HB.out⟩
 ·by_cases h2:x1=y1
  ·subst h2;by_cases h3:y2<x2
   ·have HT:Hid (r=true):=by unfold Hid;rw[HR.out];simp[h3]
    clear HR;go_enter func158,ntmps158;go_wp2_with fail;go_ret;rw[HT.out];exact⟨rfl,HB.out⟩
   ·have HT:Hid (r=false):=by unfold Hid;rw[HR.out];simp[h3]
    clear HR;go_enter func158,ntmps158;go_wp2_with fail;go_ret;rw[HT.out];exact⟨rfl,HB.out⟩
  ·have HT:Hid (r=false):=by unfold Hid;rw[HR.out];simp[h1,h2]
   have hq:(x1 == y1)=false:=by simpa using h2
   clear HR;go_enter func158,ntmps158;go_wp2_with fail;go_ret;rw[HT.out];exact⟨rfl,HB.out⟩
theorem km (a b:Gd)(w:World):Calls prog 150 #[gv a,gv b] w (uC (above a b) w):=by
 obtain⟨a1,a2⟩:=a;obtain⟨b1,b2⟩:=b;have HR:Hid (above (a1,a2) (b1,b2)=(decide ((b1:Int)<(a1:Int)) || (decide ((a1:Int)=(b1:Int))&&decide ((b2:Int)<(a2:Int))))):=by
  unfold Hid above;simp[Int.ofNat_inj]
 show Calls prog 150 #[.agg #[.int .u64 (a1:Int),.int .u64 (a2:Int)],.agg #[.int .u64 (b1:Int),.int .u64 (b2:Int)]] w _;obtain⟨r,hr⟩:=QE (above (a1,a2) (b1,b2));rw[hr]at HR ⊢;generalize (a1:Int)=x1 at *;generalize (a2:Int)=x2 at *;generalize (b1:Int)=y1 at *;generalize (b2:Int)=y2 at *;clear hr;have hB1:=(Below.refl w.heap.size w).alloc (Nat.le_refl _) (.cells #[.int .u64 x1,.int .u64 x2] 38);have HB:=QH (hB1.alloc hB1.size (.cells #[.int .u64 y1,.int .u64 y2] 38));clear hB1;by_cases h2:x1=y1
 ·subst h2;have hq:(x1 != x1)=false:=by simp
  have HT:Hid (decide (y2<x2)=r):=by unfold Hid;rw[HR.out];simp
  clear HR;go_enter func150,ntmps150;go_wp2_with fail;go_ret;rw[← HT.out];exact⟨rfl,HB.out⟩
 ·have hq:(x1 != y1)=true:=by simpa using h2
  have HT:Hid (decide (y1<x1)=r):=by unfold Hid;rw[HR.out];simp[h2]
  clear HR;go_enter func150,ntmps150;go_wp2_with fail;go_ret;rw[← HT.out];exact⟨rfl,HB.out⟩
def rE (k:Int)(c:Ch):Bool:=decide (k≤c.1)&&decide (c.1<8)&&decide (c.2.length=32)
def vV:Int→List Ch→Int
 | k,[]=>k
 | _,c::r=>vV (c.1+1) r
theorem qax:∀(l:List Ch) (k:Int) (x:Ch),uj k (l++[x])=(uj k l&&rE (vV k l) x)
 | [],k,x=>by
  show(rE k x&&true)=(true&&rE k x);rw[Bool.and_true,Bool.true_and]
 | c::l,k,x=>by
  have ih:=qax l (c.1+1) x;simp only[List.cons_append,uj,vV,ih,Bool.and_assoc]
theorem my:∀(l:List Ch) (k:Int) (x:Ch),vV k (l++[x])=x.1+1
 | [],_,_=>rfl
 | c::l,k,x=>my l _ x
theorem qeg:∀(l r:List Ch) (k:Int),uj k l=false→uj k (l++r)=false
 | [],r,k,h=>by cases h
 | c::l,r,k,h=>by
  simp only[List.cons_append,uj]at h ⊢;cases hc:(decide (k≤c.1)&&decide (c.1<8)&&decide (c.2.length=32))with
  | false=>simp
  | true =>
   rw[hc,Bool.true_and]at h;rw[qeg l r _ h];simp
theorem qwR{l:List Ch}{k:Nat}(h:may (l.take k)=false):may l=false:=by
 have:=qeg (l.take k) (l.drop k) 0 h
 rwa [List.take_append_drop]at this
theorem qpr{l:List Ch}{k:Nat}(h:k<l.length):may (l.take (k+1))=(may (l.take k)&&rE (vV 0 (l.take k)) l[k]):=by
 unfold may;rw[List.take_succ_eq_append_getElem h,qax]
def qim (g:Nat)(k:Int)(c:Ch)(w:World)(e:Ending)(w':World):Prop :=
 e=.returned (.bool (rE k c))∧qz (fun j=>j=g) w w'∧(rE k c=true→qf w' g 3 #[.int .i64 (c.1+1)])
theorem wu (g:Nat)(k:Int)(c:Ch)(w:World)(hk:kA k)(hc:kA c.1)(h:qf w g 3 #[.int .i64 k]) :
    Calls prog 226 #[.agg #[.int .i64 c.1,.string (str c.2)],pt g] w (qim g k c w):=by
 obtain⟨z,d⟩:=c;have hz:=qN d;have bq:Hid (rE k (z,d)=(decide (k≤z)&&decide (z<8)&&decide (d.length=32))):=rfl;obtain⟨r,hr⟩:=QE (rE k (z,d));unfold qim;rw[hr]at bq ⊢;clear hr;dsimp only at hc ⊢;obtain⟨S,hS⟩:=QE (str d);rw[hS]at hz ⊢;clear hS;unfold kA at hc hk;have hb:=(Below.refl w.heap.size w).alloc (Nat.le_refl _) (.cells #[.int .i64 z,.string S] 122);have hx:=qf.new w 122 #[.int .i64 z,.string S];have jG:=h.lt;have hg2:=h.below hb;have hbu:qz (fun j=>j=g) w (w.alloc (.cells #[.int .i64 z,.string S] 122)):=qz.of_below hb;obtain⟨W,hW⟩:=QE (w.alloc (.cells #[.int .i64 z,.string S] 122));rw[hW]at hx hg2 hbu;have cM:=QH hbu;have HG:=QH hg2;have c0:=hx.cell 0;have c1:=hx.cell 1;have cZ:=hx.lt;have g0:=hg2.cell 0;have gl:=hg2.lt;have gf:=hg2.frozen 0;simp only[QA,QB,QC]at c0 c1 g0;have dp:Hid (∀u:Int,(r=true→u=z+1)→(qz (fun j=>j=g) w (W.setCell ⟨g,0,none⟩ (.int .i64 u))∧(r=true→qf (W.setCell ⟨g,0,none⟩ (.int .i64 u)) g 3 #[.int .i64 (z+1)]))):=fun u hu =>
  ⟨cM.out.setCell _ _ (.inl rfl),fun hr=>by rw[hu hr];exact HG.out.qg 0 (.int .i64 (z+1))⟩
 clear hb hx hg2 hbu h jG;by_cases h1:k≤z
 ·by_cases h2:z<8
  ·by_cases h3:d.length=32
   ·have hd:((S.size:Int) == 32)=true:=by rw[hz,h3];rfl
    have HT:Hid (r=true):=by unfold Hid;rw[bq.out];simp[h1,h2,h3]
    clear bq hz h3;go_enter func226,ntmps226;go_upto_region 1 with fail;try rw[hW]
    clear hW;go_wp2_with fail;go_ret;rw[HT.out];exact⟨rfl,by have:=dp.out (z+1) (fun _=>rfl);rw[HT.out]at this;exact this⟩
   ·have hd:((S.size:Int) == 32)=false:=by rw[hz];simp;omega
    have HT:Hid (r=false):=by unfold Hid;rw[bq.out];simp[h3]
    clear bq hz h3;go_enter func226,ntmps226;go_upto_region 1 with fail;try rw[hW]
    clear hW;go_wp2_with fail;go_ret;rw[HT.out];exact⟨rfl,by have:=dp.out (z+1) (fun _=>rfl);rw[HT.out]at this;exact this⟩
  ·have HT:Hid (r=false):=by unfold Hid;rw[bq.out];simp[h2]
   clear bq hz;go_enter func226,ntmps226;go_upto_region 1 with fail;try rw[hW]
   clear hW;go_wp2_with fail;all_goals
    go_ret;have q:=fun u=>dp.out u (fun h=>absurd (HT.out.symm.trans h) (by decide));rw[HT.out]at q ⊢;exact⟨rfl,q _⟩
 ·have HT:Hid (r=false):=by unfold Hid;rw[bq.out];simp[h1]
  clear bq hz;go_enter func226,ntmps226;go_upto_region 1 with fail;try rw[hW]
  clear hW;go_wp2_with fail;all_goals
   go_ret;have q:=fun u=>dp.out u (fun h=>absurd (HT.out.symm.trans h) (by decide));rw[HT.out]at q ⊢;exact⟨rfl,q _⟩
def qwS (l:List Ch)(g:Nat)(w:World)(i:Value)(wr:World):Prop :=
 ∃k:Nat,k≤l.length∧i=.int .i64 (k:Int)∧may (l.take k)=true∧qf wr g 3 #[.int .i64 (vV 0 (l.take k))]∧kA (vV 0 (l.take k))∧Below w.heap.size w wr
theorem qay(A:Option Addr)(cp:Nat)(l:List Ch)(w:World)(h:kR w A l)(hl:l.length≤9223372036854775807) :
    Calls prog 151 #[.slice A l.length cp] w (uC (may l) w):=by
 have HC:=QH h;have hb0:=(Below.refl w.heap.size w).alloc (Nat.le_refl _) (.cells #[.int .i64 0] 3);have HG0:=QH (qf.new w 3 #[.int .i64 0]);have jt:=QH hb0;clear h hb0;obtain⟨len,hlen⟩:=QE l.length;have HLEN:=QH hlen;rw[hlen]at hl ⊢;clear hlen;go_enter func151,ntmps151;go_wp2_with fail;obtain⟨W0,hW0⟩:=QE (w.alloc (.cells #[.int .i64 0] 3));rw[hW0]at HG0 jt;try rw[hW0]
 clear hW0;obtain⟨g,hg⟩:=QE w.heap.size;have gH:=QH (Nat.le_of_eq hg);rw[hg]at HG0;try rw[hg]
 clear hg;go_loopw [6,10] (fun _ i wr=>qwS l g w i wr) (fun _ i _=>len-(intOf i).toNat);case atStart=>exact⟨0,Nat.zero_le _,rfl,rfl,HG0.out,by show kA 0;unfold kA;omega,jt.out⟩
 case round =>
  obtain⟨k,hk,rfl,hm,hG,hb,hB⟩:=hrel;have HM:=QH hm;have HG:=QH hG;have bH:=QH hb;have HB:=QH hB;rw[HLEN.out]at hk;clear hm hG hb hB;by_cases hlt:k<len
  ·have yt:(k:Int)<(len:Int):=by omega
   have iY:k<l.length:=by rw[HLEN.out];exact hlt
   obtain⟨bb,bo,rfl,hbb,c0,c1,cb⟩:=HC.out k iY;have xP:=QH (qpr iY);have HLS:Hid (vV 0 (l.take (k+1))=l[k].1+1):=by unfold Hid;rw[List.take_succ_eq_append_getElem iY,my]
   have jT:Hid (may (l.take (k+1))=false→may l=false):=fun h=>qwR h;obtain⟨x,hx⟩:=QE (l[k]);have HXM:Hid (x∈l.take (k+1)):=by unfold Hid;rw[List.take_succ_eq_append_getElem iY,hx];simp
   rw[hx]at c0 c1 cb xP HLS;have HCB:=QH cb;have e0:wr.cell? ⟨bb,bo+k*2,none⟩=some (.int .i64 x.1):=by rw[HB.out.cell (p:=⟨bb,bo+k*2,none⟩) hbb];exact c0
   have e1:wr.cell? ⟨bb,bo+k*2+1,none⟩=some (.string (str x.2)):=by rw[HB.out.cell (p:=⟨bb,bo+k*2+1,none⟩) hbb];exact c1
   have lb:bb<wr.heap.size:=Nat.lt_of_lt_of_le hbb HB.out.size;clear hx c0 c1 cb;obtain⟨W1,hW1⟩:=QE (wr.alloc (.cells #[.int .i64 x.1,.string (str x.2)] 122));have hb1:Below wr.heap.size wr W1:=by rw[← hW1];exact(Below.refl _ wr).alloc (Nat.le_refl _) _
   have hX:qf W1 wr.heap.size 122 #[.int .i64 x.1,.string (str x.2)]:=by rw[← hW1];exact qf.new _ _ _
   have qO:=QH (qa HB.out hb1);have HG1:=QH (HG.out.below hb1);have x0:=hX.cell 0;have x1:=hX.cell 1;have cZ:=hX.lt;simp only[QA,QB,QC]at x0 x1;clear hb1 hX;go_upto_region 6 with fail;try rw[hW1]
   clear hW1 e0 e1;go_wp2_with fail;refine(wu g _ x W1 bH.out HCB.out HG1.out).mono ?_;rintro e W2 ⟨rfl,hbu,hG2⟩;have qA:Hid (Below w.heap.size w W2):=qO.out.trans (hbu.below (fun j hj=>by rw[hj];exact gH.out) qO.out.size);have HG2:=QH hG2;obtain⟨r,hr⟩:=QE (rE (vV 0 (l.take k)) x);rw[hr]at xP HG2 ⊢;clear hbu hG2 x0 x1 cZ hr;cases r with
   | true =>
    have HTR:Hid (may (l.take (k+1))=true):=by unfold Hid;rw[xP.out,HM.out];rfl
    have HF:Hid (rE (vV 0 (l.take k)) x=true→x.1<8):=fun h=>by unfold rE at h;simp only[Bool.and_eq_true,decide_eq_true_eq]at h;exact h.1.2
    have HX8:Hid (kA (x.1+1)):=by
     have h:=HCB.out;have h2:=nz HTR.out x HXM.out;unfold kA at h;unfold Hid kA;omega
    go_wp2_with fail;go_roundw;case rel=>exact⟨k+1,by rw[HLEN.out];omega,by go_num,HTR.out,by rw[HLS.out];exact HG2.out (by first|rfl|trivial),by rw[HLS.out];exact HX8.out,qA.out⟩
    case measure=>simp[intOf];omega
   | false =>
    have HFL:Hid (may l=false):=jT.out (by rw[xP.out,HM.out];rfl);go_wp2_with fail;go_ret;rw[HFL.out];exact⟨rfl,qA.out⟩
  ·have yt:¬ (k:Int)<(len:Int):=by omega
   have HT:Hid (may l=true):=by
    have:=HM.out
    rwa [List.take_of_length_le (by rw[HLEN.out];omega)]at this
   go_wp2_with fail;go_ret;rw[HT.out];exact⟨rfl,HB.out⟩
theorem qwT{p:Pa}(h:above p.target p.base=false∨p.all<0∨8<p.all∨p.fr<0∨p.all<p.fr+p.zR.length∨2<p.zR.length∨(p.zR.length=0∧0<p.all)∨may p.zR=false):xz p=2:=by
 unfold xz;rw[if_pos];unfold qkF;simp only[Bool.or_eq_true,Bool.and_eq_true,Bool.not_eq_true',decide_eq_true_eq];rcases h with h|h|h|h|h|h|h|h <;> simp only[h,true_or,or_true,and_self]
theorem qsG{p:Pa}(h0:above p.target p.base=true)(h1:¬ p.all<0)(h2:¬ 8<p.all)(h3:¬ p.fr<0)(h4:¬ p.all<p.fr+p.zR.length)(h5:¬ 2<p.zR.length)(h6:¬ (p.zR.length=0∧0<p.all))(h7:may p.zR=true):xz p=0:=by
 unfold xz;rw[if_neg];unfold qkF;simp only[Bool.or_eq_true,Bool.and_eq_true,Bool.not_eq_true',decide_eq_true_eq,h0,h7];simp only[h1,h2,h3,h4,h5,h6,or_false,Bool.true_eq_false,not_false_eq_true]
theorem aO (A:Option Addr)(cp:Nat)(p:Pa)(w:World)(h:az w A cp p)(hs:p.zR.length≤1000):Calls prog 79 #[.agg (jg p A cp)] w (bV (xz p) w):=by
 have hb:=(Below.refl w.heap.size w).alloc (Nat.le_refl _) (.cells (jg p A cp) 41);have ha:=qf.new w 41 (jg p A cp);obtain⟨W,hW⟩:=QE (w.alloc (.cells (jg p A cp) 41));rw[hW]at hb ha;have HP:=QH (h.below hb);have HB:=QH hb;have HA:=QH ha;have HAB:Hid (∀W,Calls prog 150 #[gv p.target,gv p.base] W (uC (above p.target p.base) W)):=fun W=>km _ _ W;have yH:=QH (fun h=>qwT (p:=p) h);have qaz:=QH (fun h0 h1 h2 h3 h4 h5 h6 h7=>qsG (p:=p) h0 h1 h2 h3 h4 h5 h6 h7);have lQ:=h.all;have hfr:=h.fr;unfold kA at lQ hfr;have HML:Hid (p.zR.length≤1000):=hs;clear h hb ha;obtain⟨⟨b1,b2⟩,⟨t1,t2⟩,fr,all,zR⟩:=p;unfold jg gv at *;dsimp only at *;obtain⟨n,hn⟩:=QE zR.length;have HN:=QH hn;rw[hn]at hs hW HA yH qaz ⊢;have ha:=HA.out;have a0:=ha.cell 0;have a1:=ha.cell 1;have a2:=ha.cell 2;have a3:=ha.cell 3;have a4:=ha.cell 4;have a5:=ha.cell 5;have a6:=ha.cell 6;have bn:=ha.lt;simp only[QA,QB,QC]at a0 a1 a2 a3 a4 a5 a6;clear ha hn;obtain⟨K,hK⟩:=QE (xz ⟨(b1,b2),(t1,t2),fr,all,zR⟩);rw[hK]at yH qaz ⊢;obtain⟨R,hR⟩:=QE (above (t1,t2) (b1,b2));rw[hR]at HAB yH qaz;obtain⟨M,hM⟩:=QE (may zR);rw[hM]at yH qaz;have HM:=QH hM;clear hK hR hM;go_enter func79,ntmps79;go_upto_region 2 with fail;try rw[hW]
 clear hW;go_wp2_with fail;refine(HAB.out W).mono ?_;rintro e W1 ⟨rfl,hb1⟩;have qO:=QH (qa HB.out hb1);have HP1:=QH (HP.out.below hb1);have ha:=HA.out.below hb1;clear hb1 a0 a1 a2 a3 a4 a5 a6 bn HA HP HB HAB;have a4:=ha.cell 4;have a5:=ha.cell 5;have a6:=ha.cell 6;have bn:=ha.lt;simp only[QA,QB,QC]at a4 a5 a6;clear ha;cases R with
 | false =>
  obtain rfl:K=2:=yH.out (.inl rfl);go_wp2_with fail;go_ret;exact⟨rfl,qO.out⟩
 | true =>
  by_cases h1:all<0
  ·obtain rfl:K=2:=yH.out (.inr (.inl h1));go_wp2_with fail;go_ret;exact⟨rfl,qO.out⟩
  by_cases h2:8<all
  ·obtain rfl:K=2:=yH.out (.inr (.inr (.inl h2)));go_wp2_with fail;go_ret;exact⟨rfl,qO.out⟩
  by_cases h3:fr<0
  ·obtain rfl:K=2:=yH.out (.inr (.inr (.inr (.inl h3))));go_wp2_with fail;go_ret;exact⟨rfl,qO.out⟩
  by_cases h4:all<fr+n
  ·have h4':all-fr<(n:Int):=by omega
   obtain rfl:K=2:=yH.out (.inr (.inr (.inr (.inr (.inl h4)))));go_wp2_with fail;go_ret;exact⟨rfl,qO.out⟩
  have h4':¬ all-fr<(n:Int):=by omega
  by_cases h5:2<n
  ·have h5':(2:Int)<(n:Int):=by omega
   obtain rfl:K=2:=yH.out (.inr (.inr (.inr (.inr (.inr (.inl h5))))));go_wp2_with fail;go_ret;exact⟨rfl,qO.out⟩
  have h5':¬ (2:Int)<(n:Int):=by omega
  by_cases h6:n=0∧0<all
  ·obtain⟨rW,h61⟩:=h6;have h62:((n:Int) == 0)=true:=by subst rW;rfl
   obtain rfl:K=2:=yH.out (.inr (.inr (.inr (.inr (.inr (.inr (.inl ⟨rW,h61⟩)))))));go_wp2_with fail;go_ret;exact⟨rfl,qO.out⟩
  have HG:=QH (fun q=>qaz.out rfl (by omega) (by omega) (by omega) (by omega) (by omega) (by omega) q);have HMC:=QH (qay A cp zR W1 HP1.out.zR (by have:=HML.out;omega));rw[HN.out]at HMC;clear qaz;by_cases rW:n=0
  ·have h61:¬ 0<all:=fun h=>h6 ⟨rW,h⟩;have h62:((n:Int) == 0)=true:=by subst rW;rfl
   clear h6 rW;go_wp2_with fail;refine HMC.out.mono ?_;rintro e W2 ⟨rfl,hb2⟩;have qA:=QH (qa qO.out hb2);rw[HM.out];clear hb2 a4 a5 a6 bn;cases M with
   | false =>
    obtain rfl:K=2:=yH.out (.inr (.inr (.inr (.inr (.inr (.inr (.inr rfl)))))));go_wp2_with fail;go_ret;exact⟨rfl,qA.out⟩
   | true =>
    obtain rfl:K=0:=HG.out rfl;go_wp2_with fail;go_ret;exact⟨rfl,qA.out⟩
  ·have h62:((n:Int) == 0)=false:=by simpa using rW
   clear h6 rW;go_wp2_with fail;refine HMC.out.mono ?_;rintro e W2 ⟨rfl,hb2⟩;have qA:=QH (qa qO.out hb2);rw[HM.out];clear hb2 a4 a5 a6 bn;cases M with
   | false =>
    obtain rfl:K=2:=yH.out (.inr (.inr (.inr (.inr (.inr (.inr (.inr rfl)))))));go_wp2_with fail;go_ret;exact⟨rfl,qA.out⟩
   | true =>
    obtain rfl:K=0:=HG.out rfl;go_wp2_with fail;go_ret;exact⟨rfl,qA.out⟩
end Go.Proofs.YtdpbdkacngaemaaGreatDoor.st
namespace Go.Proofs.YtdpbdkacngaemaaGreatDoor.rv
open _root_.Go.Proofs.Tryz Go Go.RowKit Go.Sort ib mt st
open ch (kR)
def ub (gs:List Gd):Gd:=gs.getLast?.getD (0,0)
theorem qkJ{gs:List Gd}(h:gs.length=0):ub gs=(0,0):=by
 unfold ub;rw[List.length_eq_zero_iff.1 h];rfl
theorem qkK{gs:List Gd}{k:Nat}(h:k<gs.length)(h1:k+1=gs.length):ub gs=gs[k]:=by
 unfold ub;rw[List.getLast?_eq_getElem?,show gs.length-1=k by omega,List.getElem?_eq_getElem h];rfl
theorem vE (m:Mt):ub (m.qc.map (·.g))=vt.qE m:=by
 unfold ub vt.qE;rw[List.getLast?_map];cases m.qc.getLast? <;> rfl
def okG (g:Gd)(w:World)(e:Ending)(w':World):Prop:=e=.returned (gv g)∧Below w.heap.size w w'
theorem rF {gs:List Gd}{p:Value}{w:World}(hl:gs.length≤1000)(hL:∀W,Below w.heap.size w W→Calls prog 37 #[p] W (ch.p9 gs W)) :
    Calls prog 81 #[p] w (okG (ub gs) w):=by
 have hb1:=(Below.refl _ w).alloc (Nat.le_refl _) (.cells #[.int .u64 0,.int .u64 0] 38);have hr1:=qf.new w 38 #[.int .u64 0,.int .u64 0];obtain⟨W1,hW1⟩:=QE (w.alloc (.cells #[.int .u64 0,.int .u64 0] 38));rw[hW1]at hb1 hr1;obtain⟨g,hg⟩:=QE w.heap.size;have HL:=QH (hL W1 hb1);have qO:=QH hb1;rw[hg]at hr1;have uq:=QH hr1;have gH:Hid (w.heap.size≤g):=Nat.le_of_eq hg;have HGG:=QH hg;have su:=QH hW1;clear hb1 hr1 hL hg hW1;go_enter func81,ntmps81;go_upto_region 1 with fail;try rw[su.out]
 try rw[HGG.out]
 clear su HGG;go_wp2_with fail;refine HL.out.mono ?_;rintro e W2 ⟨A,cc,rfl,jG,-,hb⟩;have qA:=QH (qa qO.out hb);have hr2:=uq.out.below hb;have jM:=QH hr2;have HG:=QH jG;have r0:=hr2.cell 0;have r1:=hr2.cell 1;have f0:=hr2.frozen 0;have f1:=hr2.frozen 1;have hrl:=hr2.lt;simp only[QA,QB,QC]at r0 r1;have xj:Hid (∀(a b:Nat) W,qf W g 38 #[.int .u64 (a:Int),.int .u64 (b:Int)]→(loadVar 38 ⟨g,0,none⟩).run prog W=.ok (.agg #[.int .u64 (a:Int),.int .u64 (b:Int)]) W):=fun a b W hW =>
  run_loadVar_row W g 38 38 _ (0,0) _ hW underlying38 rfl (by kernel_rfl)
 have dp:Hid (∀(a b:Nat),qf ((W2.setCell ⟨g,0,none⟩ (.int .u64 (a:Int))).setCell ⟨g,1,none⟩ (.int .u64 (b:Int))) g 38 #[.int .u64 (a:Int),.int .u64 (b:Int)]∧Below w.heap.size w ((W2.setCell ⟨g,0,none⟩ (.int .u64 (a:Int))).setCell ⟨g,1,none⟩ (.int .u64 (b:Int)))):=fun a b =>
  ⟨by have:=(hr2.qg 0 (.int .u64 (a:Int))).qg 1 (.int .u64 (b:Int));simpa using this,(qA.out.setCell (p:=⟨g,0,none⟩) gH.out _).setCell (p:=⟨g,1,none⟩) gH.out _⟩
 clear jG hb hr2 HL uq qO;by_cases h0:gs.length=0
 ·have HLG:=QH (qkJ h0);have hz:((gs.length:Int) == 0)=true:=by rw[h0];rfl
  clear h0;go_wp2_with fail;refine bodyPost_ret (v:=.agg #[.int .u64 0,.int .u64 0]) (im.zf rfl _ _ _ ⟨g,0,none⟩ _ rfl (xj.out 0 0 _ (dp.out 0 0).1)) rfl ⟨by rw[HLG.out];rfl,(dp.out 0 0).2⟩
 ·obtain⟨k,hk⟩:∃k,gs.length=k+1:=⟨gs.length-1,by omega⟩;have iY:k<gs.length:=by omega
  have HLG:=QH (qkK iY hk.symm);obtain⟨b,o,rfl,s2,s3,s4,_⟩:=HG.out k iY;generalize gs[k]=gg at *;obtain⟨ga,gb⟩:=gg;dsimp only at s3 s4;have hw:IntKind.i64.wrap ((gs.length:Int)-1)=(k:Int):=by rw[IntWalk.i64_in _ (by omega)];omega
  have yt:(k:Int)<(gs.length:Int):=by omega
  have hk0:¬ (k:Int)<0:=by omega
  have hnz:((gs.length:Int) == 0)=false:=beq_false_of_ne (by omega);clear hk h0;go_wp2_with fail;refine bodyPost_ret (v:=.agg #[.int .u64 (ga:Int),.int .u64 (gb:Int)]) (im.zf rfl _ _ _ ⟨g,0,none⟩ _ rfl (xj.out ga gb _ (dp.out ga gb).1)) rfl ⟨by rw[HLG.out];rfl,(dp.out ga gb).2⟩
theorem aA (w:World)(X:Array Value):∃W,w.alloc (.cells X 41)=W∧qf W w.heap.size 41 X∧Below w.heap.size w W :=
 ⟨_,rfl,qf.new _ _ _,(Below.refl _ _).alloc (Nat.le_refl _) _⟩
def gC (g:Gd):Array Value:=#[.int .u64 (g.1:Int),.int .u64 (g.2:Int)]
theorem qhg(A:Option Addr)(cp:Nat)(p:Pa)(g:Gd)(b:Nat)(w:World)(hb0:qf w b 38 (gC g)) :
    Calls prog 152 #[.agg (jg p A cp),.pointer (some ⟨b,0,none⟩)] w (bV (if p.base=g then 0 else 9) w):=by
 obtain⟨W,hW,ha,hb⟩:=aA w (jg p A cp);have hg:=hb0.below hb;have a0:=ha.cell 0;have a1:=ha.cell 1;have lQ:=ha.lt;have g0:=hg.cell 0;have g1:=hg.cell 1;have jG:=hg.lt;simp only[jg,gC,QA,QB,QC]at a0 a1 g0 g1;have HB:=QH hb;have HQ:=QH (qmj p.base g);unfold jg at hW ⊢;generalize (p.base.1:Int)=x1 at *;generalize (p.base.2:Int)=x2 at *;generalize (g.1:Int)=y1 at *;generalize (g.2:Int)=y2 at *;clear ha hb hg hb0;by_cases he:p.base=g
 ·rw[if_pos he];have hq:=HQ.out;rw[decide_eq_true he]at hq;simp only[Bool.and_eq_true,beq_iff_eq]at hq;obtain⟨rfl,rfl⟩:=hq;clear he HQ;go_enter func152,ntmps152;go_upto_region 1 with fail;try rw[hW]
  clear hW;go_wp2_with fail;go_ret;exact⟨rfl,HB.out⟩
 ·rw[if_neg he];have hq:=HQ.out;rw[decide_eq_false he]at hq;obtain⟨q1,hq1⟩:=QE (x1 == y1);obtain⟨q2,sj⟩:=QE (x2 == y2);rw[hq1,sj]at hq;clear he HQ;go_enter func152,ntmps152;go_upto_region 1 with fail;try rw[hW]
  clear hW;cases q1 <;> cases q2 <;> try cases hq;all_goals
   go_wp2_with fail;go_ret;exact⟨rfl,HB.out⟩
def within (b:Nat)(p:Pa):Bool:=decide (p.all≤(b:Int))&&p.zR.all fun c=>decide (c.1<(b:Int))
theorem qhh{b:Nat}{p:Pa}(h:(b:Int)<p.all):within b p=false:=by
 unfold within;rw[decide_eq_false (by omega)];rfl
theorem qkL{b:Nat}{p:Pa}{k:Nat}(hk:k<p.zR.length)(h:(b:Int)≤p.zR[k].1):within b p=false:=by
 unfold within;have:(p.zR.all fun c=>decide (c.1<(b:Int)))=false:=by
  rw[List.all_eq_false];exact⟨p.zR[k],List.getElem_mem hk,by simp;omega⟩
 rw[this,Bool.and_false]
theorem qa0{b:Nat}{p:Pa}(h:p.all≤(b:Int))(h2:∀k (hk:k<p.zR.length),p.zR[k].1<(b:Int)):within b p=true:=by
 unfold within;rw[decide_eq_true h,Bool.true_and,List.all_eq_true];intro c hc;obtain⟨k,hk,rfl⟩:=List.getElem_of_mem hc;exact decide_eq_true (h2 k hk)
def q1Q (p:Pa)(b n:Nat)(w:World)(i:Value)(wr:World):Prop :=
 ∃k:Nat,k≤n∧i=.int .i64 (k:Int)∧(∀j (hj:j<p.zR.length),j<k→p.zR[j].1<(b:Int))∧Below w.heap.size w wr
theorem qbR(A:Option Addr)(cp:Nat)(p:Pa)(bk b:Nat)(w:World)(h:az w A cp p)(hs:p.zR.length≤1000)(hb0:qf w b 3 #[.int .i64 (bk:Int)]) :
    Calls prog 153 #[.agg (jg p A cp),.pointer (some ⟨b,0,none⟩)] w (bV (if within bk p then 0 else 2) w):=by
 obtain⟨W,hW,ha,hb⟩:=aA w (jg p A cp);have hg:=hb0.below hb;have a5:=ha.cell 5;have a6:=ha.cell 6;have lQ:=ha.lt;have g0:=hg.cell 0;have jG:=hg.lt;simp only[jg,QA,QB,QC]at a5 a6 g0;have HB:=QH hb;have HP:=QH (h.zR.below hb);have HG:=QH hg;have HA:=QH ha;obtain⟨R,hR⟩:=QE ((if within bk p then 0 else 2):Int);have HNA:Hid ((bk:Int)<p.all→R=2):=fun h=>by rw[← hR,qhh (b:=bk) (p:=p) h];rfl
 have HNK:Hid (∀k (hk:k<p.zR.length),(bk:Int)≤p.zR[k].1→R=2):=fun k hk h=>by rw[← hR,qkL (b:=bk) (p:=p) (k:=k) hk h];rfl
 have HYS:Hid (p.all≤(bk:Int)→(∀k (hk:k<p.zR.length),p.zR[k].1<(bk:Int))→R=0):=fun h h2=>by rw[← hR,qa0 (b:=bk) (p:=p) h h2];rfl
 rw[hR];obtain⟨n,hn⟩:=QE p.zR.length;have HN:=QH hn;unfold jg at hW HA ⊢;rw[hn]at hW a6 HA hs ⊢;clear ha hb hg hb0 h hR hn;go_enter func153,ntmps153;go_upto_region 1 with fail;try rw[hW]
 clear hW;by_cases h1:(bk:Int)<p.all
 ·obtain rfl:=HNA.out h1;go_wp2_with fail;go_ret;exact⟨rfl,HB.out⟩
 go_wp2_with fail;have HH:Hid (p.all≤(bk:Int)):=by unfold Hid;omega
 clear a5 a6 lQ g0 jG h1 HNA;go_loopw [5,13] (fun _ i wr=>q1Q p bk n W i wr) (fun _ i _=>n-(intOf i).toNat);case atStart=>exact⟨0,Nat.zero_le _,rfl,fun j _ h=>absurd h (by omega),Below.refl _ _⟩
 case round =>
  obtain⟨k,hk,rfl,hd,hB⟩:=hrel;have HD:=QH hd;have HBr:=QH hB;have hg:=HG.out.below hB;have g0:=hg.cell 0;have jG:=hg.lt;simp only[QA,QB,QC]at g0;clear hd hB;by_cases hlt:k<n
  ·have yt:(k:Int)<(n:Int):=by omega
   have iY:k<p.zR.length:=by rw[HN.out];exact hlt
   obtain⟨bb,bo,rfl,hbb,c0,c1,cb⟩:=HP.out k iY;have qwU:=QH (HNK.out k iY);have HDK:Hid (p.zR[k].1<(bk:Int)→∀j (hj:j<p.zR.length),j<k+1→p.zR[j].1<(bk:Int)):=fun h j hj hlt=>by
    by_cases hjk:j=k
    ·subst hjk;exact h
    ·exact HD.out j hj (by omega)
   obtain⟨x,hx⟩:=QE (p.zR[k]);rw[hx]at c0 c1 qwU HDK;have e0:wr.cell? ⟨bb,bo+k*2,none⟩=some (.int .i64 x.1):=by rw[HBr.out.cell (p:=⟨bb,bo+k*2,none⟩) hbb];exact c0
   have e1:wr.cell? ⟨bb,bo+k*2+1,none⟩=some (.string (str x.2)):=by rw[HBr.out.cell (p:=⟨bb,bo+k*2+1,none⟩) hbb];exact c1
   have lb:bb<wr.heap.size:=Nat.lt_of_lt_of_le hbb HBr.out.size;clear hx c0 c1 cb HD HNK;obtain⟨z,d⟩:=x;dsimp only at e0 e1 qwU HDK;obtain⟨S,hS⟩:=QE (str d);rw[hS]at e1;clear hS;obtain⟨W1,hW1⟩:=QE (wr.alloc (.cells #[.int .i64 z,.string S] 122));have hb1:Below wr.heap.size wr W1:=by rw[← hW1];exact(Below.refl _ wr).alloc (Nat.le_refl _) _
   have hX:qf W1 wr.heap.size 122 #[.int .i64 z,.string S]:=by rw[← hW1];exact qf.new _ _ _
   have qO:=QH (qa HBr.out hb1);have x0:=hX.cell 0;have cZ:=hX.lt;simp only[QA,QB,QC]at x0;have hg1:=hg.below hb1;have j0:=hg1.cell 0;have jl:=hg1.lt;simp only[QA,QB,QC]at j0;clear hb1 hX hg hg1;go_upto_region 6 with fail;try rw[hW1]
   clear hW1 e0 e1 g0 jG;by_cases h2:(bk:Int)≤z
   ·obtain rfl:=qwU.out h2;go_wp2_with fail;go_ret;exact⟨rfl,qa HB.out qO.out⟩
   ·have HT:=QH (HDK.out (by omega));go_wp2_with fail;go_roundw;case rel=>exact⟨k+1,by omega,by go_num,HT.out,qO.out⟩
    case measure=>simp[intOf];omega
  ·have yt:¬ (k:Int)<(n:Int):=by omega
   obtain rfl:=HYS.out HH.out (fun j hj=>HD.out j hj (by have:=HN.out;omega));go_wp2_with fail;go_ret;exact⟨rfl,qa HB.out HBr.out⟩
def jR (t:vt.Tf)(p:Pa):Int:=if t.base=p.base∧t.target=p.target∧t.all=p.all then t.next else 0
theorem sU (A B:Option Addr)(cp n c:Nat)(p:Pa)(t:vt.Tf)(b:Nat)(w:World)(hb0:qf w b 82 (vt.pg.uX t B n c)) :
    Calls prog 154 #[.agg (jg p A cp),.pointer (some ⟨b,0,none⟩)] w (bV (if p.fr=jR t p then 0 else 10) w):=by
 obtain⟨W,hW,ha,hb⟩:=aA w (jg p A cp);have hg:=hb0.below hb;have a0:=ha.cell 0;have a1:=ha.cell 1;have a2:=ha.cell 2;have a3:=ha.cell 3;have a4:=ha.cell 4;have a5:=ha.cell 5;have lQ:=ha.lt;have g0:=hg.cell 0;have g1:=hg.cell 1;have g2:=hg.cell 2;have g3:=hg.cell 3;have g4:=hg.cell 4;have g5:=hg.cell 5;have jG:=hg.lt;simp only[jg,vt.pg.uX,QA,QB,QC]at a0 a1 a2 a3 a4 a5 g0 g1 g2 g3 g4 g5;have HB:=QH hb;have HY:Hid ((t.base=p.base∧t.target=p.target∧t.all=p.all)→jR t p=t.next):=fun h=>by unfold jR;rw[if_pos h]
 have jT:Hid (¬ (t.base=p.base∧t.target=p.target∧t.all=p.all)→jR t p=0):=fun h=>by unfold jR;rw[if_neg h]
 obtain⟨R,hR⟩:=QE (jR t p);rw[hR]at HY jT ⊢;unfold jg at hW ⊢;clear ha hb hg hb0 hR;have E1:Hid (t.base=p.base→t.base.1=p.base.1∧t.base.2=p.base.2):=fun h=>⟨by rw[h],by rw[h]⟩;have E2:Hid (t.target=p.target→t.target.1=p.target.1∧t.target.2=p.target.2):=fun h=>⟨by rw[h],by rw[h]⟩;have HF1:Hid (p.fr=R→bV (if p.fr=R then 0 else 10) w (.returned (.int .i64 0)) W):=fun h=>by rw[if_pos h];exact⟨rfl,HB.out⟩
 have HF2:Hid (¬ p.fr=R→bV (if p.fr=R then 0 else 10) w (.returned (.int .i64 10)) W):=fun h=>by rw[if_neg h];exact⟨rfl,HB.out⟩
 obtain⟨K,hK⟩:=QE ((if p.fr=R then 0 else 10):Int);rw[hK]at HF1 HF2 ⊢;clear hK;go_enter func154,ntmps154;go_upto_region 1 with fail;try rw[hW]
 clear hW;by_cases h1:t.base=p.base
 case' neg =>
  obtain rfl:=jT.out (fun h=>h1 h.1);have hgn:=vt.pg.lO h1;clear h1 HY jT E1 E2;rcases hgn with hg|⟨hg,hg2⟩;all_goals
   go_upto_region 4 with fail;first|clear hg2|skip
   clear hg;by_cases h9:p.fr=0
   ·have HF:=QH (HF1.out h9);have h9b:(p.fr != 0)=false:=by simpa using h9
    clear h9;go_wp2_with fail;go_ret;exact HF.out
   ·have HF:=QH (HF2.out h9);have h9b:(p.fr != 0)=true:=by simpa using h9
    clear h9;go_wp2_with fail;go_ret;exact HF.out
 obtain⟨e1,e2⟩:=E1.out h1;by_cases h2:t.target=p.target
 case' neg =>
  obtain rfl:=jT.out (fun h=>h2 h.2.1);have hgn:=vt.pg.lO h2;clear h1 h2 HY jT E1 E2;rcases hgn with hg|⟨hg,hg2⟩;all_goals
   go_upto_region 4 with fail;first|clear hg2|skip
   clear hg e1 e2;by_cases h9:p.fr=0
   ·have HF:=QH (HF1.out h9);have h9b:(p.fr != 0)=false:=by simpa using h9
    clear h9;go_wp2_with fail;go_ret;exact HF.out
   ·have HF:=QH (HF2.out h9);have h9b:(p.fr != 0)=true:=by simpa using h9
    clear h9;go_wp2_with fail;go_ret;exact HF.out
 obtain⟨e3,e4⟩:=E2.out h2;by_cases h3:t.all=p.all
 case' neg =>
  obtain rfl:=jT.out (fun h=>h3 h.2.2);clear h1 h2 HY jT E1 E2;go_upto_region 4 with fail;clear h3 e1 e2 e3 e4;by_cases h9:p.fr=0
  ·have HF:=QH (HF1.out h9);have h9b:(p.fr != 0)=false:=by simpa using h9
   clear h9;go_wp2_with fail;go_ret;exact HF.out
  ·have HF:=QH (HF2.out h9);have h9b:(p.fr != 0)=true:=by simpa using h9
   clear h9;go_wp2_with fail;go_ret;exact HF.out
 obtain rfl:=HY.out ⟨h1,h2,h3⟩;clear h1 h2 HY jT E1 E2;go_upto_region 4 with fail;clear h3 e1 e2 e3 e4;by_cases h9:p.fr=t.next
 ·have HF:=QH (HF1.out h9);have h9b:(p.fr != t.next)=false:=by simpa using h9
  clear h9;go_wp2_with fail;go_ret;exact HF.out
 ·have HF:=QH (HF2.out h9);have h9b:(p.fr != t.next)=true:=by simpa using h9
  clear h9;go_wp2_with fail;go_ret;exact HF.out
def jz (K:Nat→Int):Nat→Int
 | 0=>0
 | n+1=>if jz K n≠0 then jz K n else K n
theorem kx {K:Nat→Int}{k:Nat}(h0:jz K k=0)(hk:K k≠0):∀n,k<n→jz K n=K k
 | 0,h=>absurd h (by omega)
 | n+1,h=>by
  unfold jz;by_cases hn:k=n
  ·subst hn;rw[if_neg (by rw[h0];simp)]
  ·rw[kx h0 hk n (by omega),if_pos hk]
theorem yP {K:Nat→Int}{k:Nat}(h0:jz K k=0)(hk:K k=0):jz K (k+1)=0:=by
 unfold jz;rw[if_neg (by rw[h0];simp)];exact hk
def q1R (K:Nat→Int)(w:World)(i:Value)(wr:World):Prop:=∃k:Nat,k≤4∧i=.int .i64 (k:Int)∧jz K k=0∧Below w.heap.size w wr
theorem qkM(A:Option Addr)(cp:Nat)(p:Pa)(w:World)(fs:Nat→FuncId)(uP:Nat→Array Value)(K:Nat→Int)(g:Nat)(hk:qf w g 153 #[.func (.func (fs 0)) #[] (uP 0),.func (.func (fs 1)) #[] (uP 1),.func (.func (fs 2)) #[] (uP 2),.func (.func (fs 3)) #[] (uP 3)])
    (hcf:∀k,k<4→∀(a:Array Value) (W:World),Sem.run prog (callFunc (fs k) a) W=Result.ok (Next.enter (fs k) a) W) (hC:∀k,k<4→∀W,Below w.heap.size w W→Calls prog (fs k) (#[.agg (jg p A cp)]++uP k) W (bV (K k) W)) :
    Calls prog 78 #[.agg (jg p A cp),.slice (some ⟨g,0,none⟩) 4 4] w (bV (jz K 4) w):=by
 obtain⟨W,hW,ha,hb⟩:=aA w (jg p A cp);have HB:=QH hb;have HA:=QH ha;have HG:=QH (hk.below hb);have HCF:=QH hcf;have HC:=QH hC;clear ha hb hk hcf hC;unfold jg at *;go_enter func78,ntmps78;go_upto_region 1 with fail;try rw[hW]
 clear hW;go_wp2_with fail;go_loopw [10] (fun i wr=>q1R K W i wr) (fun i _=>4-(intOf i).toNat);case atStart=>exact⟨0,by omega,rfl,rfl,Below.refl _ _⟩
 case round =>
  obtain⟨k,hk4,rfl,hz,hB⟩:=hrel;have HZ:=QH hz;have HBr:=QH hB;have hg:=HG.out.below hB;have jG:=hg.lt;have ha:=HA.out.below hB;have a0:=ha.cell 0;have a1:=ha.cell 1;have a2:=ha.cell 2;have a3:=ha.cell 3;have a4:=ha.cell 4;have a5:=ha.cell 5;have a6:=ha.cell 6;have lQ:=ha.lt;simp only[QA,QB,QC]at a0 a1 a2 a3 a4 a5 a6;by_cases hlt:k<4
  ·have yt:(k:Int)<4:=by omega
   have q0:wr.cell? ⟨g,k,none⟩=some (.func (.func (fs k)) #[] (uP k)):=by
    rw[hg.cell];rcases k with _|_|_|_|k;all_goals (first|omega|rfl)
   have HCK:=QH (HC.out k hlt wr (qa HB.out HBr.out));have hcf:=HCF.out k hlt;have HST:Hid (K k≠0→jz K 4=K k):=fun h=>kx HZ.out h 4 hlt;have kU:Hid (K k=0→jz K (k+1)=0):=fun h=>yP HZ.out h;generalize fs k=f at *;generalize uP k=cs at *;generalize K k=c at *;clear hz hB hg ha;go_wp2_with fail;refine HCK.out.mono ?_;rintro e W2 ⟨rfl,hb2⟩;have qA:=QH (qa HBr.out hb2);clear hb2 a0 a1 a2 a3 a4 a5 a6 lQ q0 jG HCK hcf;by_cases h0:c=0
   ·have HN:=QH (kU.out h0);have hcb:(c != 0)=false:=by simpa using h0
    clear h0;go_wp2_with fail;go_roundw;case rel=>exact⟨k+1,by omega,by go_num,HN.out,qA.out⟩
    case measure=>simp[intOf];omega
   ·have HN:=QH (HST.out h0);have hcb:(c != 0)=true:=by simpa using h0
    clear h0;go_wp2_with fail;go_ret;rw[HN.out];exact⟨rfl,qa HB.out qA.out⟩
  ·have yt:¬ (k:Int)<4:=by omega
   have q1S:k=4:=by omega
   have HR:Hid (jz K 4=0):=by have:=HZ.out;rw[q1S]at this;exact this
   clear q1S hz hB hg ha a0 a1 a2 a3 a4 a5 a6 lQ jG;go_wp2_with fail;go_ret;rw[HR.out];exact⟨rfl,qa HB.out HBr.out⟩
def MkC (k:FuncId)(t:TypeId)(cs:Array Value)(w:World)(e:Ending)(w':World):Prop:=∃b,e=.returned (.func (.func k) #[] #[.pointer (some ⟨b,0,none⟩)])∧qf w' b t cs∧Below w.heap.size w w'
theorem qhi(g:Gd)(w:World):Calls prog 80 #[gv g] w (MkC 152 38 (gC g) w):=by
 have HB:=QH ((Below.refl w.heap.size w).alloc (Nat.le_refl _) (.cells (gC g) 38));have HK:=QH (qf.new w 38 (gC g));unfold gv gC at *;go_enter func80,ntmps80;go_wp2_with fail;go_ret;exact⟨_,rfl,HK.out,HB.out⟩
theorem rG (k:Nat)(w:World):Calls prog 82 #[.int .i64 (k:Int)] w (MkC 153 3 #[.int .i64 (k:Int)] w):=by
 have HB:=QH ((Below.refl w.heap.size w).alloc (Nat.le_refl _) (.cells #[.int .i64 (k:Int)] 3));have HK:=QH (qf.new w 3 #[.int .i64 (k:Int)]);go_enter func82,ntmps82;go_wp2_with fail;go_ret;exact⟨_,rfl,HK.out,HB.out⟩
theorem qeh(t:vt.Tf)(A:Option Addr)(n c:Nat)(w:World):Calls prog 83 #[.agg (vt.pg.uX t A n c)] w (MkC 154 82 (vt.pg.uX t A n c) w):=by
 have HB:=QH ((Below.refl w.heap.size w).alloc (Nat.le_refl _) (.cells (vt.pg.uX t A n c) 82));have HK:=QH (qf.new w 82 (vt.pg.uX t A n c));unfold vt.pg.uX at *;go_enter func83,ntmps83;go_wp2_with fail;go_ret;exact⟨_,rfl,HK.out,HB.out⟩
def kOf (m:Mt)(p:Pa):Nat→Int
 | 0=>xz p
 | 1=>if p.base=vt.qE m then 0 else 9
 | 2=>if within m.live.length p then 0 else 2
 | _=>if p.fr=jR (vt.tf m.tok) p then 0 else 10
def fS (m:Mt)(p:Pa):Int:=jz (kOf m p) 4
def jW (p:Pa):vt.Tf:=⟨p.base,p.target,p.fr+p.zR.length,p.all⟩
def qei (N:Nat)(t:vt.Tg)(d:vt.DD)(m:Mt)(p:Pa)(r:Int)(d':vt.DD)(m':Mt)(lost:Bool):Prop :=
 (fS m p≠0∧r=fS m p∧d'=d∧m'=m∧lost=false)∨(fS m p=0∧vt.qj3 N t d m (vt.xr N m (jW p) p.zR) r d' m' lost)
theorem qej{m:Mt}{p:Pa}(h:fS m p=0):xz p=0∧p.base=vt.qE m∧within m.live.length p=true∧p.fr=jR (vt.tf m.tok) p:=by
 unfold fS at h;have h0:kOf m p 0=0:=Classical.byContradiction fun e=>by rw[kx (k:=0) rfl e 4 (by omega)]at h;exact e h
 have g1:=yP (K:=kOf m p) (k:=0) rfl h0;have h1:kOf m p 1=0:=Classical.byContradiction fun e=>by rw[kx (k:=1) g1 e 4 (by omega)]at h;exact e h
 have g2:=yP g1 h1;have h2:kOf m p 2=0:=Classical.byContradiction fun e=>by rw[kx (k:=2) g2 e 4 (by omega)]at h;exact e h
 have g3:=yP g2 h2;have h3:kOf m p 3=0:=Classical.byContradiction fun e=>by rw[kx (k:=3) g3 e 4 (by omega)]at h;exact e h
 refine⟨h0,Classical.byContradiction fun e=>?_,Classical.byContradiction fun e=>?_,Classical.byContradiction fun e=>?_⟩
 ·have h:(if p.base=vt.qE m then(0:Int)else 9)=0:=h1;rw[if_neg e]at h;exact absurd h (by decide)
 ·have h:(if within m.live.length p then(0:Int)else 2)=0:=h2;rw[if_neg e]at h;exact absurd h (by decide)
 ·have h:(if p.fr=jR (vt.tf m.tok) p then(0:Int)else 10)=0:=h3;rw[if_neg e]at h;exact absurd h (by decide)
theorem qpt{m:Mt}{p:Pa}(h0:xz p=0)(h1:p.base=vt.qE m)(h2:within m.live.length p=true)(h3:p.fr=jR (vt.tf m.tok) p):fS m p=0:=by
 have e0:kOf m p 0=0:=h0;have e1:kOf m p 1=0:=by show(if p.base=vt.qE m then(0:Int)else 9)=0;rw[if_pos h1]
 have e2:kOf m p 2=0:=by show(if within m.live.length p then(0:Int)else 2)=0;rw[if_pos h2]
 have e3:kOf m p 3=0:=by show(if p.fr=jR (vt.tf m.tok) p then(0:Int)else 10)=0;rw[if_pos h3]
 exact yP (yP (yP (yP rfl e0) e1) e2) e3
theorem qek{p:Pa}(h:xz p=0):above p.target p.base=true∧0≤p.fr∧p.fr+p.zR.length≤p.all∧p.all≤8∧p.zR.length≤2∧(p.zR.length=0→p.all=0)∧may p.zR=true:=by
 unfold xz at h;split at h
 ·cases h
 ·rename_i hb;unfold qkF at hb;simp only[Bool.or_eq_true,Bool.and_eq_true,Bool.not_eq_true',decide_eq_true_eq,not_or,not_and]at hb;obtain⟨⟨⟨⟨⟨⟨⟨h1,h2⟩,h3⟩,h4⟩,h5⟩,h6⟩,h7⟩,h8⟩:=hb;refine⟨by simpa using h1,by omega,by omega,by omega,by omega,fun e=>?_,by simpa using h8⟩;have:=h7 e;omega
section
variable {IV:vt.jw} (H:vt.jP IV) {o1 o2:Nat→Prop} {w w':World} {v pd:Nat} {d:vt.DD} {m:Mt} {l:Bool}
include H in
theorem qZ (h:vt.VP IV w o1 o2 v pd d m l)(hb:Below w.heap.size w w'):vt.VP IV w' o1 o2 v pd d m l :=
 h.keep H (fun j hj=>hb.block j (h.low H j hj)) hb.size
end
def TkG (p:Pa)(A:Option Addr)(cp v k:Nat)(gd:Gd)(t:vt.Tf)(n:Nat)(c:Int):Nat→Value→World→Prop
 | 0,x,_=>x=.agg (jg p A cp)
 | 1,x,_=>x=pt v
 | 2,x,_=>x=gv gd
 | 3,x,w=>∃b,x=.func (.func 152) #[] #[.pointer (some ⟨b,0,none⟩)]∧qf w b 38 (gC gd)
 | 4,x,_=>x=pt v
 | 5,x,_=>x=.int .i64 (k:Int)
 | 6,x,w=>∃b,x=.func (.func 153) #[] #[.pointer (some ⟨b,0,none⟩)]∧qf w b 3 #[.int .i64 (k:Int)]
 | 7,x,_=>x=pt v
 | 8,x,_=>∃B c',x=.agg (vt.pg.uX t B n c')
 | 9,x,w=>∃b B c',x=.func (.func 154) #[] #[.pointer (some ⟨b,0,none⟩)]∧qf w b 82 (vt.pg.uX t B n c')
 | 10,x,w=>∃g b1 b2 b3 B c',x=.slice (some ⟨g,0,none⟩) 4 4∧qf w g 153 #[.func (.func 79) #[] #[],.func (.func 152) #[] #[.pointer (some ⟨b1,0,none⟩)],.func (.func 153) #[] #[.pointer (some ⟨b2,0,none⟩)],.func (.func 154) #[] #[.pointer (some ⟨b3,0,none⟩)]]∧qf w b1 38 (gC gd)∧qf w b2 3 #[.int .i64 (k:Int)]∧qf w b3 82 (vt.pg.uX t B n c')
 | 11,x,_=>x=.int .i64 c
 | _,_,_=>True
theorem qpu(p:Pa)(A:Option Addr)(cp v k:Nat)(gd:Gd)(t:vt.Tf)(n:Nat)(c:Int)(i:Nat)(x:Value)(w w':World)(hi:i<12)(h:TkG p A cp v k gd t n c i x w)(hb:Below w.heap.size w w'):TkG p A cp v k gd t n c i x w':=by
 match i,hi,h with
 | 0,_,h | 1,_,h | 2,_,h | 4,_,h | 5,_,h | 7,_,h | 8,_,h | 11,_,h=>exact h
 | 3,_,⟨b,h1,h2⟩=>exact⟨b,h1,h2.below hb⟩
 | 6,_,⟨b,h1,h2⟩=>exact⟨b,h1,h2.below hb⟩
 | 9,_,⟨b,B,c',h1,h2⟩=>exact⟨b,B,c',h1,h2.below hb⟩
 | 10,_,⟨g,b1,b2,b3,B,c',h1,h2,h3,h4,h5⟩=>exact⟨g,b1,b2,b3,B,c',h1,h2.below hb,h3.below hb,h4.below hb,h5.below hb⟩
 | j+12,hi,_=>exact absurd hi (by omega)
theorem qkN{p:Pa}{A:Option Addr}{cp:Nat}{m:Mt}{n c' g b1 b2 b3:Nat}{B:Option Addr}{w:World}(h:az w A cp p)(hs:p.zR.length≤1000)
    (hk:qf w g 153 #[.func (.func 79) #[] #[],.func (.func 152) #[] #[.pointer (some ⟨b1,0,none⟩)],.func (.func 153) #[] #[.pointer (some ⟨b2,0,none⟩)],.func (.func 154) #[] #[.pointer (some ⟨b3,0,none⟩)]])
    (h1:qf w b1 38 (gC (vt.qE m))) (h2:qf w b2 3 #[.int .i64 (m.live.length:Int)]) (h3:qf w b3 82 (vt.pg.uX (vt.tf m.tok) B n c')) :
    Calls prog 78 #[.agg (jg p A cp),.slice (some ⟨g,0,none⟩) 4 4] w (bV (fS m p) w):=by
 refine qkM A cp p w (fun k=>if k=0 then 79 else if k=1 then 152 else if k=2 then 153 else 154)
  (fun k=>if k=0 then #[]else if k=1 then #[.pointer (some ⟨b1,0,none⟩)]else if k=2 then #[.pointer (some ⟨b2,0,none⟩)]else #[.pointer (some ⟨b3,0,none⟩)]) (kOf m p) g hk ?_ ?_
 ·intro k hk4 a W;rcases k with _|_|_|_|k;all_goals (first|omega|skip)
  ·go_simp
  ·go_simp
  ·go_simp
  ·go_simp
 ·intro k hk4 W hb;rcases k with _|_|_|_|k;all_goals (first|omega|skip)
  ·exact aO A cp p W (h.below hb) hs
  ·exact qhg A cp p (vt.qE m) b1 W (h1.below hb)
  ·exact qbR A cp p m.live.length b2 W (h.below hb) hs (h2.below hb)
  ·exact sU A B cp n c' p (vt.tf m.tok) b3 W (h3.below hb)
theorem kL {IV:vt.jw}(H:vt.jP IV){o1 o2:Nat→Prop}{w:World}{v pd N b:Nat}{d:vt.DD}{m:Mt}{t:vt.Tg}(A:Option Addr)(cp:Nat)(p:Pa)(hv:vt.VP IV w o1 o2 v pd d m false)(hJ:jr.JJ N t d)(hf:0≤d.qy)(hR:vt.yb b N t m)
    (h:az w A cp p) (hs:p.zR.length≤1000) (hA:∀b o,A=some ⟨b,o,none⟩→¬ o1 b∧¬ o2 b) :
    Calls prog 25 #[pt v,.agg (jg p A cp)] w (vt.qbl IV o1 o2 v pd (qei N t d m p) w):=by
 obtain⟨W,hW,hk,hb⟩:=aA w (jg p A cp);have HB:=QH hb;have HK:=QH hk;have nQ:=QH hv;have HV:=QH (qZ H hv hb);have HP:=QH (h.below hb);have HJ:=QH hJ;have HF:=QH hf;have HR:=QH hR;have HA:=QH hA;have HS:=QH hs;have hlv:m.live.length=b:=hR.ok.len;have hb1:=hR.ok.b1;have hb8:=hR.ok.b8;have qgS:=hR.ok.few;have qsA:Hid ((m.qc.map (·.g)).length≤1000):=by unfold Hid;rw[List.length_map];omega
 have hnz:((m.live.length:Int) == 0)=false:=beq_false_of_ne (by omega);have bK:=QH (H.blocks (qZ H hv hb).is);have HTF:Hid (vt.TfB (jW p)∨xz p≠0):=by
  unfold Hid;by_cases hc:xz p=0
  ·obtain⟨_,h2,h3,h4,h5,_⟩:=qek hc;exact .inl ⟨h.base,h.target,by show kA (p.fr+p.zR.length);unfold kA;omega,h.all⟩
  ·exact .inr hc
 have HFR:Hid (xz p=0→IntKind.i64.wrap (p.fr+(p.zR.length:Int))=p.fr+(p.zR.length:Int)):=fun hc=>by
  obtain⟨_,h2,h3,h4,h5,_⟩:=qek hc;exact IntWalk.i64_in _ (by omega)
 have HAZ:=QH (fun hz=>(qej (m:=m) (p:=p) hz).1);have HX:Hid (∀g,w.heap.size=g→True):=fun _ _=>trivial;obtain⟨gp,hgp⟩:=QE w.heap.size;rw[hgp]at hk HK;have HGP:=QH hgp;have HW:=QH hW;clear hW hk hb hv h hJ hf hR hA hs hlv hb1 hb8 qgS hgp HX;obtain⟨K,hK⟩:=QE (fS m p);have HKE:=QH hK;clear hK;obtain⟨PN,hPN⟩:=QE (jg p A cp);have HPN:=QH hPN;rw[hPN]at HW HK ⊢;clear hPN;go_enter func25,ntmps25;go_upto_region 1 with fail;try rw[HW.out]
 try rw[HGP.out]
 clear HW;go_wp2_with fail;refine bK.out.mono ?_;rintro e W1 ⟨rfl,hb⟩;have qO:=QH (qa HB.out hb);have bz:=QH (HK.out.below hb);have HV1:=QH (qZ H HV.out hb);have HP1:=QH (HP.out.below hb);clear hb HB HK HV HP bK;go_upto_region 3 with fail;clear hnz;refine qQ (by kernel_rfl) 12 [10,11,12,13,14,15,16,17,18,19,20,21] (by kernel_rfl) (TkG p A cp v m.live.length (vt.qE m) (vt.tf m.tok) m.tok.qp.length K) (qpu _ _ _ _ _ _ _ _ _) ?_ ?_
 ·intro i o vs ρ W hi hop hρ hfn hb hG;have t0:ρ (.tmp 0)=pt v:=hρ.out 0 rfl;have t3:ρ (.tmp 3)=pt gp:=hρ.out 3 rfl;have s10:=hρ.at_ 10 0 rfl;have s11:=hρ.at_ 11 1 rfl;have s12:=hρ.at_ 12 2 rfl;have tD:=hρ.at_ 13 3 rfl;have s14:=hρ.at_ 14 4 rfl;have s15:=hρ.at_ 15 5 rfl;have s16:=hρ.at_ 16 6 rfl;have s17:=hρ.at_ 17 7 rfl;have s18:=hρ.at_ 18 8 rfl;have s19:=hρ.at_ 19 9 rfl;have s20:=hρ.at_ 20 10 rfl;have hc:=hρ.const;have hvw:=qZ H HV1.out hb;rcases i with _|_|_|_|_|_|_|_|_|_|_|_|i;all_goals (first|omega|skip)
  all_goals simp only[QA,QB,QC,Option.some.injEq]at hop
  all_goals subst hop
  ·have hkw:=bz.out.below hb;rw[← HPN.out]at hkw;have a0:=hkw.cell 0;have a1:=hkw.cell 1;have a2:=hkw.cell 2;have a3:=hkw.cell 3;have a4:=hkw.cell 4;have a5:=hkw.cell 5;have a6:=hkw.cell 6;have lQ:=hkw.lt;simp only[jg,QA,QB,QC]at a0 a1 a2 a3 a4 a5 a6;exact q9 (v:=.agg (jg p A cp)) (w':=W) (by unfold execOp jg;simp only[t3];go_simp) ⟨Below.refl _ _,rfl⟩
  ·exact q9 (w':=W) (by unfold execOp;simp only[t0];go_simp) ⟨Below.refl _ _,rfl⟩
  ·have g1:vs 1=_:=hG 1 (by kernel_rfl);refine qj (f:=81) (args:=#[pt v]) (w':=W) (by unfold execOp;simp only[hfn,s11,g1];go_simp) ((rF qsA.out (fun W' hb'=>H.list (qZ H hvw hb').is)).mono ?_);rintro e W' ⟨rfl,hb5⟩;exact⟨_,rfl,hb5,by rw[vE];rfl⟩
  ·have g2:vs 2=_:=hG 2 (by kernel_rfl);refine qj (f:=80) (args:=#[gv (vt.qE m)]) (w':=W) (by unfold execOp;simp only[hfn,s12,g2];go_simp) ((qhi (vt.qE m) W).mono ?_);rintro e W' ⟨b',rfl,dA,hb5⟩;exact⟨_,rfl,hb5,b',rfl,dA⟩
  ·exact q9 (w':=W) (by unfold execOp;simp only[t0];go_simp) ⟨Below.refl _ _,rfl⟩
  ·have g4:vs 4=_:=hG 4 (by kernel_rfl);refine qj (f:=77) (args:=#[pt v]) (w':=W) (by unfold execOp;simp only[hfn,s14,g4];go_simp) ((H.blocks hvw.is).mono ?_);rintro e W' ⟨rfl,hb5⟩;exact⟨_,rfl,hb5,rfl⟩
  ·have g5:vs 5=_:=hG 5 (by kernel_rfl);refine qj (f:=82) (args:=#[.int .i64 (m.live.length:Int)]) (w':=W) (by unfold execOp;simp only[hfn,s15,g5];go_simp) ((rG m.live.length W).mono ?_);rintro e W' ⟨b',rfl,dA,hb5⟩;exact⟨_,rfl,hb5,b',rfl,dA⟩
  ·exact q9 (w':=W) (by unfold execOp;simp only[t0];go_simp) ⟨Below.refl _ _,rfl⟩
  ·have g7:vs 7=_:=hG 7 (by kernel_rfl);refine qj (f:=41) (args:=#[pt v]) (w':=W) (by unfold execOp;simp only[hfn,s17,g7];go_simp) ((H.token hvw.is).mono ?_);rintro e W' ⟨B,c',rfl,_,_,hb5⟩;exact⟨_,rfl,hb5,B,c',rfl⟩
  ·obtain⟨B,c',g8⟩:=hG 8 (by kernel_rfl);refine qj (f:=83) (args:=#[.agg (vt.pg.uX (vt.tf m.tok) B m.tok.qp.length c')]) (w':=W) (by unfold execOp;simp only[hfn,s18,g8];go_simp) ((qeh (vt.tf m.tok) B m.tok.qp.length c' W).mono ?_);rintro e W' ⟨b',rfl,dA,hb5⟩;exact⟨_,rfl,hb5,b',B,c',rfl,dA⟩
  ·obtain⟨b1,g3,k3⟩:=hG 3 (by kernel_rfl);obtain⟨b2,g6,k6⟩:=hG 6 (by kernel_rfl);obtain⟨b3,B,c',g9,k9⟩:=hG 9 (by kernel_rfl);have hb1:=(Below.refl _ W).alloc (Nat.le_refl _) (.cells #[.func (.func 79) #[] #[],.func (.func 152) #[] #[.pointer (some ⟨b1,0,none⟩)],.func (.func 153) #[] #[.pointer (some ⟨b2,0,none⟩)],.func (.func 154) #[] #[.pointer (some ⟨b3,0,none⟩)]] 153);exact q9 (v:=.slice (some ⟨W.heap.size,0,none⟩) 4 4) (w':=W.alloc (.cells #[.func (.func 79) #[] #[],.func (.func 152) #[] #[.pointer (some ⟨b1,0,none⟩)],.func (.func 153) #[] #[.pointer (some ⟨b2,0,none⟩)],.func (.func 154) #[] #[.pointer (some ⟨b3,0,none⟩)]] 153)) (by unfold execOp;simp only[hfn,tD,g3,s16,g6,s19,g9];go_simp) ⟨hb1,_,b1,b2,b3,B,c',rfl,qf.new _ _ _,k3.below hb1,k6.below hb1,k9.below hb1⟩
  ·have g0:vs 0=_:=hG 0 (by kernel_rfl);obtain⟨g,b1,b2,b3,B,c',g10,k1,k2,k3,k4⟩:=hG 10 (by kernel_rfl);refine qj (f:=78) (args:=#[.agg (jg p A cp),.slice (some ⟨g,0,none⟩) 4 4]) (w':=W) (by unfold execOp;simp only[hfn,s10,g0,s20,g10];go_simp) ((qkN (HP1.out.below hb) HS.out k1 k2 k3 k4).mono ?_);rintro e W' ⟨rfl,hb5⟩;exact⟨_,rfl,hb5,by rw[HKE.out];rfl⟩
 ·intro vs W2 hb hG;have g11:vs 11=_:=hG 11 (by decide);have qA:=QH (qa qO.out hb);have HV2:=QH (qZ H HV1.out hb);have sB:=QH (HP1.out.below hb);have hk2:=bz.out.below hb;rw[← HPN.out]at hk2;have a0:=hk2.cell 0;have a1:=hk2.cell 1;have a2:=hk2.cell 2;have a3:=hk2.cell 3;have a4:=hk2.cell 4;have a5:=hk2.cell 5;have a6:=hk2.cell 6;have lQ:=hk2.lt;simp only[jg,QA,QB,QC]at a0 a1 a2 a3 a4 a5 a6;clear hk2 hb qO HV1 HP1 bz HPN;simp only[qR,qG,if_true];rw[g11];generalize vs 0=z0;generalize vs 1=z1;generalize vs 2=z2;generalize vs 3=z3;generalize vs 4=z4;generalize vs 5=z5;generalize vs 6=z6;generalize vs 7=z7;generalize vs 8=z8;generalize vs 9=z9;generalize vs 10=z10;clear hG g11;simp only[Act.put,List.setIfInBounds_toArray,List.set_cons_succ,List.set_cons_zero];refine qJ (i:=12) (by kernel_rfl) rfl rfl ?_;go_simp;refine⟨by kernel_rfl,?_⟩;by_cases h0:K=0
  ·have hkb:(K != 0)=false:=by simpa using h0
   have HZ:Hid (fS m p=0):=HKE.out.trans h0;have hw:=HFR.out (HAZ.out HZ.out);have HTB:Hid (vt.TfB (jW p)):=HTF.out.elim id (fun h=>absurd (HAZ.out HZ.out) h);have HST:=QH (H.stage (jW p) A cp p.zR HV2.out HJ.out HF.out HR.out HTB.out sB.out.zR HS.out HA.out);unfold vt.tkV jW at HST;dsimp only at HST;subst h0;clear HAZ HFR HTF HTB;go_wp2_with fail;refine HST.out.mono ?_;rintro e W3 ⟨r,d',m',lost,sK,iV,rfl,hv',jx,hg,hq⟩;have hs2:=qA.out.size;have dp:Hid (vt.qbl IV o1 o2 v pd (qei N t d m p) w (.returned (.int .i64 r)) W3):=⟨r,d',m',lost,sK,iV,rfl,hv',(qz.of_below (S:=fun j=>o1 j∨o2 j) qA.out).trans jx (fun _ h=>.inl h),fun j hj=>by
    rcases hg j hj with h|h
    ·exact .inl h
    ·exact .inr (by omega),.inr ⟨HZ.out,hq⟩⟩
   clear hv' jx hg hq HST;go_wp2_with fail;go_ret;exact dp.out
  ·have hkb:(K != 0)=true:=by simpa using h0
   have dp:Hid (vt.qbl IV o1 o2 v pd (qei N t d m p) w (.returned (.int .i64 K)) W2):=⟨K,d,m,false,o1,o2,rfl,HV2.out,qz.of_below qA.out,fun j hj=>.inl hj,.inl ⟨by rw[HKE.out];exact h0,HKE.out.symm,rfl,rfl,rfl⟩⟩;clear h0;go_wp2_with fail;go_ret;exact dp.out
end Go.Proofs.YtdpbdkacngaemaaGreatDoor.rv
namespace Go.Proofs.YtdpbdkacngaemaaGreatDoor.st
open _root_.Go.Proofs.Tryz Go Go.RowKit wi mt
theorem rH:∀ {l:List Ch} {k:Int},uj k l=true→k≤8→(l.length:Int)≤8-k
 | [],k,_,hk=>by simp;omega
 | x::r,k,h,hk=>by
  unfold uj at h;simp only[Bool.and_eq_true,decide_eq_true_eq]at h;obtain⟨⟨⟨h1,h2⟩,_⟩,h4⟩:=h;have:=rH h4 (by omega);rw[List.length_cons];omega
theorem qkO{l:List Ch}{j k:Int}(hj:j≤k)(h:uj k l=true):uj j l=true:=by
 cases l with
 | nil=>rfl
 | cons x r =>
  unfold uj at h ⊢;simp only[Bool.and_eq_true,decide_eq_true_eq]at h ⊢;exact⟨⟨⟨by omega,h.1.1.2⟩,h.1.2⟩,h.2⟩
theorem lr:∀(n:Nat) {l:List Ch} {k:Int},uj k l=true→uj k (l.drop n)=true
 | 0,_,_,h=>h
 | _+1,[],_,_=>rfl
 | n+1,x::r,k,h=>by
  have h2:=h;unfold uj at h2;simp only[Bool.and_eq_true,decide_eq_true_eq]at h2;exact lr n (qkO (by omega) h2.2)
theorem lu:∀(n:Nat) {l:List Ch} {k:Int},uj k l=true→uj k (l.take n)=true
 | 0,_,_,_=>rfl
 | _+1,[],_,_=>rfl
 | n+1,x::r,k,h=>by
  have h2:=h;unfold uj at h2;simp only[Bool.and_eq_true,decide_eq_true_eq]at h2;rw[List.take_succ_cons];unfold uj;simp only[Bool.and_eq_true,decide_eq_true_eq];exact⟨h2.1,lu n h2.2⟩
structure qin(b t:Gd)(l:List Ch)(fr:Int):Prop where
 up:above t b=true
 may:may l=true
 lo:0≤fr
 hi:fr<max (l.length:Int) 1
theorem qwW{b t:Gd}{l:List Ch}{fr:Int}:lq b t l fr=false↔qin b t l fr:=by
 unfold lq;constructor
 ·intro h;simp only[Bool.or_eq_false_iff,Bool.not_eq_false',decide_eq_false_iff_not]at h;exact⟨h.1.1.1,h.1.1.2,by omega,by omega⟩
 ·intro h;have h1:=h.lo;have h2:=h.hi;simp only[h.up,h.may,Bool.not_true,Bool.or_eq_false_iff,decide_eq_false_iff_not];exact⟨⟨⟨trivial,trivial⟩,by omega⟩,by omega⟩
def mR (b t:Gd)(l:List Ch)(k:Nat):Pa:=⟨b,t,k,l.length,(l.drop k).take 2⟩
theorem qwX{b t:Gd}{l:List Ch}{k:Nat}(h:qin b t l k):sT b t l k=(mR b t l k,0):=by
 unfold sT;rw[qwW.2 h];rfl
theorem fT (b t:Gd)(l:List Ch)(k:Nat):(mR b t l k).zR.length=min 2 (l.length-k):=by
 show((l.drop k).take 2).length=_;rw[List.length_take,List.length_drop]
theorem qhj{b t:Gd}{l:List Ch}{k:Nat}(h:qin b t l k):xz (mR b t l k)=0:=by
 have hl:=fT b t l k;have h8:=rH (k:=0) h.may (by omega);have h2:=h.hi;have hm:may (mR b t l k).zR=true:=lu 2 (lr k h.may);have e1:(mR b t l k).all=(l.length:Int):=rfl;have e2:(mR b t l k).fr=(k:Int):=rfl;unfold xz qkF;rw[show above (mR b t l k).target (mR b t l k).base=true from h.up,hm,e1,e2,hl];rw[if_neg];simp only[Bool.not_true,Bool.false_or,Bool.or_false,Bool.or_eq_true,Bool.and_eq_true,decide_eq_true_eq,not_or];omega
theorem tN (l:List Ch)(k n:Nat)(hn:n=min 2 (l.length-k)):l.take k++(l.drop k).take 2=l.take (k+n):=by
 rw[List.take_add]
 congr 1
 by_cases h:2≤l.length-k
 ·rw[show n=2 by omega]
 ·rw[List.take_of_length_le (by rw[List.length_drop];omega),List.take_of_length_le (by rw[List.length_drop];omega)]
end Go.Proofs.YtdpbdkacngaemaaGreatDoor.st
namespace Go.Proofs.YtdpbdkacngaemaaGreatDoor.vt
open _root_.Go.Proofs.Tryz Go Go.RowKit ib jr mt im sp
section
variable {N:Nat} {t:Tg} {m:Mt}
end
end Go.Proofs.YtdpbdkacngaemaaGreatDoor.vt
namespace Go.Proofs.YtdpbdkacngaemaaGreatDoor.vt
open _root_.Go.Proofs.Tryz Go Go.RowKit jr mt im sp
theorem qhk(x y:List (Int × Bt)):∀l,xX l (x++y)=xX (xX l x) y:=by
 induction x with
 | nil=>exact fun l=>rfl
 | cons a r ih=>exact fun l=>ih _
structure Few(k:Nat)(c:ch.CH):Prop where
 n:c.qc.length≤k
 ep:∀s∈c.qc,s.g.1≤1
theorem Few.more{k:Nat}{c:ch.CH}(h:Few k c):Few (k+1) c:=⟨by have:=h.n;omega,h.ep⟩
theorem Few.last{k:Nat}{c:ch.CH}(h:Few k c):c.last.1≤1:=by
 unfold ch.CH.last;split
 ·exact Nat.zero_le _
 ·rename_i s hs;exact h.ep s (List.mem_of_getLast? hs)
section
variable {N i:Nat} {t:Tg} {m:Mt} {c:ch.CH} {V:List Bt}
end
end Go.Proofs.YtdpbdkacngaemaaGreatDoor.vt
namespace Go.Proofs.YtdpbdkacngaemaaGreatDoor.ch
open _root_.Go.Proofs.Tryz Go Go.RowKit ib
def PtL (w:World)(A:Option Addr)(zs:List (Int × UInt8)):Prop :=
 ∀i (h:i<zs.length),∃b o,A=some ⟨b,o,none⟩∧b<w.heap.size∧w.cell? ⟨b,o+i*2,none⟩=some (.int .i64 zs[i].1)∧w.cell? ⟨b,o+i*2+1,none⟩=some (.int .u8 (zs[i].2.toNat:Int))∧kA zs[i].1
theorem PtL.below{w w':World}{A:Option Addr}{x:List (Int × UInt8)}(h:PtL w A x)(hb:Below w.heap.size w w'):PtL w' A x:=by
 intro i hi;obtain⟨b,o,h1,h2,h3,h4,h5⟩:=h i hi;exact⟨b,o,h1,Nat.lt_of_lt_of_le h2 hb.size,by rw[hb.cell (p:=⟨b,o+i*2,none⟩) h2];exact h3,by rw[hb.cell (p:=⟨b,o+i*2+1,none⟩) h2];exact h4,h5⟩
def cT (zs:List (Int × UInt8)):List (Int × Bt):=(zs.take 10).map fun x=>(x.1,dat x.2)
def qbS (x:Int):Int:=x%8
def wr1 (d:CH)(x:Int × UInt8):CH:=(d.write (qbS x.1) (dat (x.2%200))).1
def jf (d:CH)(zs:List (Int × UInt8)):CH:=(zs.take 10).foldl wr1 d
theorem qsH(x:Int):IntKind.i64.wrap (x.tmod 8+8)=x.tmod 8+8∧(x.tmod 8+8).tmod 8=qbS x:=by
 have h1 : -8<x.tmod 8∧x.tmod 8<8:=⟨Int.lt_tmod_of_pos x (by decide),Int.tmod_lt_of_pos x (by decide)⟩;refine⟨IntWalk.i64_in _ (by omega),?_⟩;unfold qbS;rw[Int.tmod_eq_emod_of_nonneg (by omega),Int.add_emod_right,Int.tmod_eq_emod];split <;> omega
def rdL (l:List Bt)(zs:List (Int × UInt8)):List Bt:=(jf ⟨l,[]⟩ zs).live
theorem lx (l:List Bt)(ss:List Sn)(x:Int × UInt8):wr1 ⟨l,ss⟩ x=⟨(wr1 ⟨l,[]⟩ x).live,ss⟩:=by
 unfold wr1 CH.write;dsimp only;split <;> rfl
theorem fold_eq:∀(zs:List (Int × UInt8)) (l:List Bt) (ss:List Sn),zs.foldl wr1 ⟨l,ss⟩=⟨(zs.foldl wr1 ⟨l,[]⟩).live,ss⟩
 | [],_,_=>rfl
 | x::zs,l,ss=>by
  rw[List.foldl_cons,List.foldl_cons,lx l ss x,lx l [] x,fold_eq zs _ ss]
def lv (zT:List (List (Int × UInt8))):Nat→List Bt
 | 0=>uM 8
 | i+1=>rdL (lv zT i) (zT.getD i [])
structure qpv(gd:Nat→Gd):Prop where
 first:above (gd 0) (0,0)=true
 next:∀i,above (gd (i+1)) (gd i)=true
 inj:∀i j,gd i=gd j→i=j
section
variable {gd:Nat→Gd} (hg:qpv gd) {zT:List (List (Int × UInt8))}
include hg
omit hg
end
end Go.Proofs.YtdpbdkacngaemaaGreatDoor.ch
namespace Go.Proofs.YtdpbdkacngaemaaGreatDoor.ch
open _root_.Go.Proofs.Tryz Go Go.RowKit ib
def qem (p q:List Bt)(i:Nat):Option (Int × Bt):=if q.getD i []=p.getD i []then none else some ((i:Int),q.getD i [])
theorem rI (p q:List Bt)(hpq:p.length=q.length)(hq:∀v∈q,v.length=32):∀(m k:Nat) (l:List Bt) (b:Int),k+m=q.length→l.length=q.length→b<(k:Int)→(∀i,i<k→l.getD i []=q.getD i [])→(∀i,k≤i→l.getD i []=p.getD i []) →
    cD l b ((List.range' k m).filterMap (qem p q))=some q
 | 0,k,l,b,hk,hl,hb,h1,h2=>by
  show some l=some q
  congr 1
  refine List.ext_getElem? fun i=>?_;by_cases hi:i<k
  ·have:=h1 i hi;rw[List.getD_eq_getElem?_getD,List.getD_eq_getElem?_getD,List.getElem?_eq_getElem (by omega),List.getElem?_eq_getElem (by omega)]at this;rw[List.getElem?_eq_getElem (by omega),List.getElem?_eq_getElem (by omega)];exact congrArg some this
  ·rw[List.getElem?_eq_none (by omega),List.getElem?_eq_none (by omega)]
 | m+1,k,l,b,hk,hl,hb,h1,h2=>by
  have hkq:k<q.length:=by omega
  have hqk:q.getD k []=q[k]:=by rw[List.getD_eq_getElem?_getD,List.getElem?_eq_getElem hkq];rfl
  rw[List.range'_succ,List.filterMap_cons];by_cases he:q.getD k []=p.getD k []
  ·have hd:qem p q k=none:=by unfold qem;rw[if_pos he]
   rw[hd];refine rI p q hpq hq m (k+1) l b (by omega) hl (by omega) (fun i hi=>?_) (fun i hi=>h2 i (by omega));by_cases hik:i=k
   ·subst hik;rw[h2 i (Nat.le_refl _),he]
   ·exact h1 i (by omega)
  ·have hd:qem p q k=some ((k:Int),q.getD k []):=by unfold qem;rw[if_neg he]
   rw[hd];dsimp only;unfold cD;rw[if_neg (by
    rw[hqk,hq _ (List.getElem_mem hkq)];omega),Int.toNat_natCast]
   refine rI p q hpq hq m (k+1) _ (k:Int) (by omega) (by rw[List.length_set];exact hl) (by omega) (fun i hi=>?_) (fun i hi=>?_)
   ·rw[List.getD_eq_getElem?_getD,List.getElem?_set];by_cases hik:k=i
    ·subst hik;rw[if_pos rfl,if_pos (by omega)];rfl
    ·rw[if_neg hik,← List.getD_eq_getElem?_getD];exact h1 i (by omega)
   ·rw[List.getD_eq_getElem?_getD,List.getElem?_set,if_neg (by omega),← List.getD_eq_getElem?_getD];exact h2 i (by omega)
theorem qkQ{p q:List Bt}(hpq:p.length=q.length)(hq:∀v∈q,v.length=32):cD p (-1) (wC p q)=some q:=by
 have h:=rI p q hpq hq q.length 0 p (-1) (by omega) hpq (by omega) (fun i hi=>absurd hi (by omega)) (fun i _=>rfl);rw[← List.range_eq_range']at h;exact h
section
variable {gd:Nat→Gd} (hg:qpv gd) {zT:List (List (Int × UInt8))}
include hg
end
def jZ (i:Nat):Gd:=(1,i+1)
theorem lz:qpv jZ:=⟨by decide,fun i=>by unfold above jZ;simp,fun i j h=>by unfold jZ at h;have:=(Prod.mk.inj h).2;omega⟩
end Go.Proofs.YtdpbdkacngaemaaGreatDoor.ch
namespace Go.Proofs.YtdpbdkacngaemaaGreatDoor.rv
open _root_.Go.Proofs.Tryz Go Go.RowKit ib mt st
structure uY(lv:Nat→List Bt):Prop where
 zero:lv 0=ch.uM 8
 ok:∀i,ch.qT 8 (lv i)
def snL (lv:Nat→List Bt)(i:Nat):ch.Sn:=⟨ch.jZ i,lv (i+1),false⟩
def aL (lv:Nat→List Bt)(n:Nat):ch.CH:=⟨lv n,(List.range n).map (snL lv)⟩
def df (lv:Nat→List Bt)(k:Nat):List (Int × Bt):=ch.wC (lv k) (lv (k+1))
def xH:Nat→Gd
 | 0=>(0,0)
 | k+1=>ch.jZ k
section
variable {lv:Nat→List Bt}
theorem qbT(n:Nat):(aL lv n).qc.length=n:=by simp[aL]
theorem nA (n:Nat):(aL lv (n+1)).qc=(aL lv n).qc++[snL lv n]:=by
 unfold aL;rw[List.range_succ,List.map_append];rfl
theorem qio(n:Nat):(aL lv n).last=xH n:=by
 cases n with
 | zero=>rfl
 | succ n =>
  unfold ch.CH.last;rw[nA];simp[snL,xH]
theorem qsI(h:uY lv)(n:Nat):(aL lv n).base=lv n:=by
 cases n with
 | zero =>
  show ch.uM (lv 0).length=lv 0;rw[(h.ok 0).1,h.zero]
 | succ n =>
  unfold ch.CH.base;rw[nA];simp[snL]
theorem cU (n:Nat):ch.above (ch.jZ n) (xH n)=true:=by
 cases n with
 | zero=>rfl
 | succ n=>exact ch.lz.next n
theorem qkR{i j:Nat}(h:xH i=xH j):i=j:=by
 cases i <;> cases j
 ·rfl
 ·exact absurd (congrArg Prod.fst h) (by simp[xH,ch.jZ])
 ·exact absurd (congrArg Prod.fst h) (by simp[xH,ch.jZ])
 ·rw[ch.lz.inj _ _ h]
theorem qsJ(n:Nat)(h:n<20):(⟨lv (n+1),(aL lv n).qc⟩:ch.CH).snap (ch.jZ n)=(aL lv (n+1),0):=by
 have hl:(⟨lv (n+1),(aL lv n).qc⟩:ch.CH).last=xH n:=qio n;have hm:(⟨lv (n+1),(aL lv n).qc⟩:ch.CH).may (ch.jZ n)=0:=by
  unfold ch.CH.may;rw[hl,cU,if_pos rfl,if_neg (by rw[qbT];omega)]
 unfold ch.CH.snap;rw[if_pos hm]
 congr 1
 show ch.CH.mk _ _=ch.CH.mk _ _
 congr 1
 exact(nA n).symm
theorem qpw(n k:Nat)(h:k<n):(aL lv n).tX k=lv (k+1):=by
 unfold ch.CH.tX aL;dsimp only;rw[List.getElem?_map,List.getElem?_range h];rfl
theorem qsK(hv:uY lv)(n k:Nat)(h:k<n):(aL lv n).prev k=lv k:=by
 unfold ch.CH.prev;split
 ·rename_i h0;subst h0;show ch.uM (lv n).length=lv 0;rw[(hv.ok n).1,hv.zero]
 ·rw[qpw n (k-1) (by omega),Nat.sub_add_cancel (by omega)]
theorem qhl(hv:uY lv)(n k:Nat)(h:k<n):(aL lv n).changes (k:Int)=(df lv k,0):=by
 unfold ch.CH.changes;rw[if_neg (by rw[qbT];omega),Int.toNat_natCast,qsK hv n k h,qpw n k h];rfl
theorem qip(n k:Nat)(h:k<n):(aL lv n).read (ch.jZ k)=(lv (k+1),0):=by
 have hf:(aL lv n).find (ch.jZ k)=some k:=by
  unfold ch.CH.find;rw[List.findIdx?_eq_some_iff_getElem];refine⟨by rw[qbT];exact h,?_,fun j hj=>?_⟩
  ·simp[aL,snL]
  ·have:¬ ch.jZ j=ch.jZ k:=fun e=>by have:=ch.lz.inj _ _ e;omega
   simp[aL,snL,this]
 have hs:(aL lv n).qc[k]?=some (snL lv k):=by
  unfold aL;dsimp only;rw[List.getElem?_map,List.getElem?_range h];rfl
 unfold ch.CH.read;rw[hf];dsimp only;rw[hs];rfl
theorem qbU(n:Nat):(aL lv n).list=(List.range n).map ch.jZ:=by
 unfold ch.CH.list aL;rw[List.map_map];rfl
theorem yQ (n:Nat):(aL lv n).list.length=n:=by rw[qbU];simp
theorem rJ (n k:Nat)(h:k<(aL lv n).list.length):(aL lv n).list[k]=ch.jZ k:=by
 have e:(aL lv n).list[k]?=some (ch.jZ k):=by
  rw[qbU,List.getElem?_map,List.getElem?_range (by rw[yQ]at h;exact h)];rfl
 rw[List.getElem?_eq_getElem h]at e;exact Option.some.inj e
theorem qbV:∀(x:List (Int × Bt)) (p:Int),vt.xw 8 p x=uj (p+1) x
 | [],_=>rfl
 | (k,s)::r,p=>by
  unfold vt.xw uj;rw[qbV r k];rw[show decide (p<k)=decide (p+1≤k)from by rw[Bool.eq_iff_iff];simp only[decide_eq_true_eq];omega];rfl
theorem qpx(h:uY lv)(k:Nat):vt.xw 8 (-1) (df lv k)=true∧vt.xX (lv k) (df lv k)=lv (k+1):=by
 have h1:=ch.qkQ (p:=lv k) (q:=lv (k+1)) (by rw[(h.ok k).1,(h.ok (k+1)).1]) (h.ok (k+1)).2;rw[vt.oV (b:=8) _ _ _ (h.ok k).1]at h1;split at h1
 ·rename_i h2;exact⟨h2,Option.some.inj h1⟩
 ·cases h1
theorem qbW(h:uY lv)(k:Nat):may (df lv k)=true:=by
 have:=(qpx h k).1;rw[qbV]at this;exact this
theorem rK (h:uY lv)(k:Nat):(df lv k).length≤8:=by
 have:=rH (qbW h k) (by omega);omega
theorem qen(h:uY lv)(k j:Nat):vt.xw 8 (-1) (((df lv k).drop j).take 2)=true:=by
 rw[qbV];exact lu 2 (lr j (qbW h k))
def gQ (lv:Nat→List Bt)(k j:Nat):Pa:=mR (xH k) (ch.jZ k) (df lv k) j
structure Rc(lv:Nat→List Bt)(M k j:Nat)(t:vt.Tg)(m:Mt):Prop where
 uh:vt.uh t m=aL lv k
 kM:k≤M
 zero:j=0→m.tok=yB
 pos:j≠0→vt.tf m.tok=⟨xH k,ch.jZ k,(j:Int),((df lv k).length:Int)⟩∧vt.volume t m.tok.qp=vt.xX (lv k) ((df lv k).take j)∧j<(df lv k).length∧k<M
 even:j%2=0
def nxt (lv:Nat→List Bt)(k j:Nat):Nat × Nat:=if (df lv k).length≤j+2 then(k+1,0)else(k,j+2)
def left (M k j:Nat):Nat:=4*(M-k)-j/2
variable {M k j N:Nat} {t:vt.Tg} {m:Mt}
theorem Rc.qE(h:Rc lv M k j t m):vt.qE m=xH k:=by rw[← vt.fz t m,h.uh,qio]
theorem Rc.qc(h:Rc lv M k j t m):m.qc.length=k:=by
 have:(vt.uh t m).qc.length=m.qc.length:=by simp[vt.uh]
 rw[← this,h.uh,qbT]
theorem Rc.qum(h:Rc lv M k j t m):m.qc.map (·.g)=(List.range k).map ch.jZ:=by
 have:(vt.uh t m).list=m.qc.map (·.g):=by simp[vt.uh,ch.CH.list,vt.qbi]
 rw[← this,h.uh,qbU]
theorem Rc.hi(h:Rc lv M k j t m)(hk:k<M):(j:Int)<max ((df lv k).length:Int) 1:=by
 by_cases h0:j=0
 ·omega
 ·have:=(h.pos h0).2.2.1;omega
theorem Rc.cut(hv:uY lv)(h:Rc lv M k j t m)(hk:k<M):qin (xH k) (ch.jZ k) (df lv k) (j:Int):=⟨cU k,qbW hv k,by omega,h.hi hk⟩
theorem Rc.j6(hv:uY lv)(h:Rc lv M k j t m):j≤6:=by
 by_cases h0:j=0
 ·omega
 ·have:=(h.pos h0).2.2.1;have:=rK hv k;have:=h.even;omega
theorem qkS(hv:uY lv)(h:Rc lv M k j t m)(hk:k<M):left M (nxt lv k j).1 (nxt lv k j).2+1≤left M k j:=by
 have:=h.j6 hv;have:=h.even;have:=rK hv k;unfold nxt left;split
 ·dsimp only;omega
 ·dsimp only;omega
theorem Rc.asks(h:Rc lv M k j t m):m.tok.next=(j:Int)∧(m.tok.target=(0,0)∨m.tok.target=ch.jZ k):=by
 by_cases h0:j=0
 ·rw[h.zero h0,h0];exact⟨rfl,.inl rfl⟩
 ·have h1:=(h.pos h0).1;unfold vt.tf at h1;injection h1 with e1 e2 e3 e4
  exact⟨e3,.inr e2⟩
theorem qiq(hv:uY lv)(h:Rc lv M k j t m)(hk:k<M)(i:Nat):jR (vt.tf m.tok) (gQ lv k i)=(j:Int):=by
 unfold jR;by_cases h0:j=0
 ·rw[if_neg,h0]
  ·rfl
  ·rw[h.zero h0];rintro⟨_,h2,_⟩;have:((0,0):Gd)=ch.jZ k:=h2;exact absurd (congrArg Prod.fst this) (by simp[ch.jZ])
 ·rw[(h.pos h0).1];exact if_pos ⟨rfl,rfl,rfl⟩
theorem qkT(hv:uY lv)(k j:Nat):within 8 (gQ lv k j)=true:=by
 refine qa0 ?_ fun i hi=>?_
 ·have:=rK hv k;show((df lv k).length:Int)≤(8:Nat);omega
 ·exact(vt.wE (qen hv k j) _ (List.getElem_mem hi)).2.2
theorem qpy(hv:uY lv)(h:Rc lv M k j t m)(hk:k<M)(hl:m.live.length=8):fS m (gQ lv k j)=0:=by
 refine qpt (qhj (h.cut hv hk)) h.qE.symm ?_ (qiq hv h hk j).symm;rw[hl];exact qkT hv k j
theorem qaV(hv:uY lv)(h:Rc lv M k j t m){k' j':Nat}(ho:k'<k∨(k'=k∧j'<j∧k<M)):fS m (gQ lv k' j')≠0:=by
 intro hz;obtain⟨_,hb,_,hf⟩:=qej hz;rcases ho with ho|⟨rfl,ho,hk⟩
 ·rw[h.qE]at hb;have:=qkR hb;omega
 ·rw[qiq hv h hk j']at hf;have:(j':Int)=(j:Int):=hf;omega
theorem qir(k:Nat)(hk:k<1000):xB (ch.jZ k):=⟨by show 1<_;omega,by show k+1<_;omega⟩
theorem qsL(hv:uY lv)(h:Rc lv M k j t m)(hk:k<M)(n:Int):vt.volume t (vt.zL m ⟨xH k,ch.jZ k,n,((df lv k).length:Int)⟩)=vt.xX (lv k) ((df lv k).take j):=by
 unfold vt.zL;by_cases h0:j=0
 ·rw[if_neg]
  ·rw[← vt.qnx,h.uh,qsI hv,h0];rfl
  ·rw[h.zero h0];rintro⟨_,h2,_⟩;have:((0,0):Gd)=ch.jZ k:=h2;exact absurd (congrArg Prod.fst this) (by simp[ch.jZ])
 ·obtain⟨h1,h2,_⟩:=h.pos h0;unfold vt.tf at h1;injection h1 with e1 e2 e3 e4
  rw[if_pos ⟨e1,e2,e4⟩];exact h2
theorem qkU(hv:uY lv)(h:Rc lv M k j t m)(hk:k<M)(hM:M≤8)(hR:vt.yb 8 N t m)(hN:377≤N){P:vt.qfN}(hP:vt.xr N m (jW (gQ lv k j)) (gQ lv k j).zR=P) :
    P.code=0∧vt.jI 8 N P.m∧vt.tZ N m P.ws∧Rc lv M (nxt lv k j).1 (nxt lv k j).2 (jr.over t (vt.qL t P.m P.ws)) P.m:=by
 have hlen:=fT (xH k) (ch.jZ k) (df lv k) j;have hcut:=h.hi hk;have h8:=rK hv k;have hj6:=h.j6 hv;obtain⟨L,hL⟩:=QE ((gQ lv k j).zR.length);have hL':L=min 2 ((df lv k).length-j):=by rw[← hL];exact hlen
 have hf:jW (gQ lv k j)=⟨xH k,ch.jZ k,(j:Int)+L,((df lv k).length:Int)⟩:=by
  unfold jW;rw[hL];rfl
 have hx:(gQ lv k j).zR=((df lv k).drop j).take 2:=rfl;have hlv:m.live.length=8:=hR.ok.len;have hsn:=h.qc;have hlg:=h.qE;have hx2:(((df lv k).drop j).take 2).length≤8:=by rw[List.length_take];omega
 have qun:vt.xX (vt.xX (lv k) ((df lv k).take j)) (((df lv k).drop j).take 2)=vt.xX (lv k) ((df lv k).take (j+L)):=by
  rw[← vt.qhk,tN (df lv k) j L hL']
 have he:vt.zK m.live.length m.qc.length (vt.qE m) ⟨xH k,ch.jZ k,(j:Int)+L,((df lv k).length:Int)⟩ (((df lv k).drop j).take 2)=0:=by
  unfold vt.zK;rw[hlv,hsn,hlg,if_neg,if_neg,if_neg]
  ·omega
  ·rw[qen hv k j];decide
  ·have ha:mt.above (ch.jZ k) (xH k)=true:=cU k;rw[ha];simp only[ne_eq,not_true_eq_false,Bool.true_eq_false,false_or];omega
 rw[hf,hx]at hP;have p7:=qsL hv h hk ((j:Int)+L);rcases vt.cJ hR ⟨xH k,ch.jZ k,(j:Int)+L,((df lv k).length:Int)⟩ (qir k (by omega)) (((df lv k).drop j).take 2)with⟨_,hvf,_⟩|⟨h1,h2⟩
 ·have:=hvf.far hR.ok hx2;omega
 ·rw[he,hP]at h1;rw[hP]at h2;have hd:=h2 h1;refine⟨h1,?_⟩;by_cases hw:(j:Int)+L=((df lv k).length:Int)
  ·obtain⟨d,qhm⟩:=hd.whole hw;rw[p7,qun,show j+L=(df lv k).length by omega,List.take_length,(qpx hv k).2,h.uh]at d;obtain⟨d1,d2,d3⟩:=d;have hn:nxt lv k j=(k+1,0):=by unfold nxt;rw[if_pos (by omega)]
   rw[hn];refine⟨d1,d2,?_,by omega,fun _=>qhm,fun h=>absurd rfl h,rfl⟩;rw[d3];show ch.CH.mk _ _=ch.CH.mk _ _;rw[show(aL lv k).qc++[⟨ch.jZ k,lv (k+1),false⟩]=(aL lv (k+1)).qc from(nA k).symm];rfl
  ·obtain⟨⟨d1,d2,d3⟩,qhm,qsM⟩:=hd.part hw;rw[p7,qun]at qsM;rw[h.uh]at d3;have hL2:L=2:=by omega
   have hn:nxt lv k j=(k,j+2):=by unfold nxt;rw[if_neg (by omega)]
   rw[hn];subst hL2;exact⟨d1,d2,d3,by omega,fun h=>by simp at h,fun _=>⟨qhm,qsM,by show j+2<(df lv k).length;omega,hk⟩,by have:=h.even;show(j+2)%2=0;omega⟩
end
end Go.Proofs.YtdpbdkacngaemaaGreatDoor.rv
namespace Go.Proofs.YtdpbdkacngaemaaGreatDoor.rv
open _root_.Go.Proofs.Tryz Go Go.RowKit ib ch
theorem qeo(c:UInt8)(w:World):Calls prog 14 #[.int .u8 (c.toNat:Int)] w (okS (rep c 32) w):=by
 have hc0:(0:Int)≤(c.toNat:Int):=by omega
 have hc1:(c.toNat:Int)<256:=by have:=c.toNat_lt;omega
 go_enter func14,ntmps14;go_wp2_with (at_make;refine qi rfl (qc0 _ _ 32 rfl rfl rfl (by decide)) ?_;rw[← qeY c]);have hb0:qf (w.alloc (.cells (w6 c 0) 5)) w.heap.size 5 (w6 c 0):=qf.new _ _ _;have hB0:Below w.heap.size w (w.alloc (.cells (w6 c 0) 5)):=(Below.refl _ w).alloc (Nat.le_refl _) _;have Hb0:=QH hb0;have jt:=QH hB0;clear hb0 hB0;generalize w.alloc (.cells (w6 c 0) 5)=W0 at *;go_loopw [4] (fun i wr=>∃k:Nat,k≤32∧i=.int .i64 (k:Int)∧qf wr w.heap.size 5 (w6 c k)∧Below w.heap.size w wr) (fun i _=>32-(intOf i).toNat);case atStart=>exact⟨0,by omega,rfl,Hb0.out,jt.out⟩
 case round =>
  obtain⟨k,hk,rfl,zy,hBk⟩:=hrel;have kX:=QH zy;have HB:=QH hBk;by_cases hlt:k<32
  ·have hcell:(wr.cell? ⟨w.heap.size,k,none⟩).isSome=true:=by
      rw[zy.cell k,Array.getElem?_eq_getElem (by rw[qeZ c k hk];exact hlt)];rfl
   obtain⟨u,hu⟩:=Option.isSome_iff_exists.1 hcell;have hf:=zy.frozen k;clear zy hBk hcell;go_wp2_with fail;go_roundw;case rel=>exact⟨k+1,by omega,by go_num,by rw[← qiA c k hlt];exact kX.out.qg k _,HB.out.setCell (Nat.le_refl _) _⟩
   case measure=>simp[intOf];omega
  ·have q66:k=32:=by omega
   clear zy hBk hk hlt;subst q66;have hP:=kX.out;rw[qfb]at hP;have HP:=QH hP;clear hP;have hcv:=wO (rep c 32) w.heap.size 32 5 wr (qfa _ _) HP.out;go_wp2_with fail;go_ret;exact⟨rfl,HB.out⟩
def PtL (w:World)(A:Option Addr)(zs:List (Int × UInt8)):Prop :=
 ∀i (h:i<zs.length),∃b o,A=some ⟨b,o,none⟩∧b<w.heap.size∧w.cell? ⟨b,o+i*2,none⟩=some (.int .i64 zs[i].1)∧w.cell? ⟨b,o+i*2+1,none⟩=some (.int .u8 (zs[i].2.toNat:Int))∧kA zs[i].1
theorem PtL.below{w w':World}{A:Option Addr}{x:List (Int × UInt8)}(h:PtL w A x)(hb:Below w.heap.size w w'):PtL w' A x:=by
 intro i hi;obtain⟨b,o,h1,h2,h3,h4,h5⟩:=h i hi;exact⟨b,o,h1,Nat.lt_of_lt_of_le h2 hb.size,by rw[hb.cell (p:=⟨b,o+i*2,none⟩) h2];exact h3,by rw[hb.cell (p:=⟨b,o+i*2+1,none⟩) h2];exact h4,h5⟩
def cT (zs:List (Int × UInt8)):List (Int × Bt):=(zs.take 5).map fun x=>(x.1,rep x.2 32)
def wr1 (d:CH)(x:Int × UInt8):CH:=(d.write (qbS x.1) (rep x.2 32)).1
def jf (d:CH)(zs:List (Int × UInt8)):CH:=(zs.take 8).foldl wr1 d
def RG (p:Value)(bb bo k n c:Nat)(x1:Int)(x2:Nat)(m1 m2 m3:Int)(S:ByteArray):Nat→Value→World→Prop
 | 0,v,_=>v=p
 | 1,v,_=>v=.slice (some ⟨bb,bo,none⟩) n c
 | 2,v,_=>v=.int .i64 (k:Int)
 | 3,v,_=>v=.pointer (some ⟨bb,bo+k*2,none⟩)
 | 4,v,_=>v=.pointer (some ⟨bb,bo+k*2,none⟩)
 | 5,v,_=>v=.int .i64 x1
 | 6,v,_=>v=.int .i64 m1
 | 7,v,_=>v=.int .i64 m2
 | 8,v,_=>v=.int .i64 m3
 | 9,v,_=>v=.slice (some ⟨bb,bo,none⟩) n c
 | 10,v,_=>v=.int .i64 (k:Int)
 | 11,v,_=>v=.pointer (some ⟨bb,bo+k*2,none⟩)
 | 12,v,_=>v=.pointer (some ⟨bb,bo+k*2+1,none⟩)
 | 13,v,_=>v=.int .u8 (x2:Int)
 | 14,v,_=>v=.string S
 | _,_,_=>True
theorem qsN(p:Value)(bb bo k n c:Nat)(x1:Int)(x2:Nat)(m1 m2 m3:Int)(S:ByteArray)(i:Nat)(v:Value)(w w':World)(hi:i<15)(h:RG p bb bo k n c x1 x2 m1 m2 m3 S i v w)(_:Below w.heap.size w w'):RG p bb bo k n c x1 x2 m1 m2 m3 S i v w':=by
 match i,hi,h with
 | 0,_,h | 1,_,h | 2,_,h | 3,_,h | 4,_,h | 5,_,h | 6,_,h | 7,_,h | 8,_,h | 9,_,h | 10,_,h | 11,_,h | 12,_,h | 13,_,h | 14,_,h=>exact h
 | i+15,hi,_=>exact absurd hi (by omega)
theorem qep(d:CH)(zs:List (Int × UInt8))(k:Nat)(h:k<zs.length)(h8:k<8):jf d (zs.take (k+1))=wr1 (jf d (zs.take k)) zs[k]:=by
 unfold jf;rw[List.take_take,List.take_take,Nat.min_eq_right (by omega),Nat.min_eq_right (by omega),List.take_succ_eq_append_getElem h,List.foldl_append];rfl
theorem qeq(d:CH)(zs:List (Int × UInt8))(k:Nat)(h:k≤zs.length)(h8:k≤8)(he:¬ (k<zs.length∧k<8)):jf d (zs.take k)=jf d zs:=by
 have e:(zs.take k).take 8=zs.take 8:=by
  rw[List.take_take];by_cases h:k=zs.length
  ·subst h;rw[← List.take_take,List.take_length]
  ·have:k=8:=by omega
   subst this;rw[Nat.min_self]
 unfold jf;rw[e]
def q1U (Is:rX)(own:Nat→Prop)(p:Nat)(d:CH)(zs:List (Int × UInt8))(w:World)(i:Value)(wr:World):Prop :=
 ∃(k:Nat) (yI:Nat→Prop),k≤zs.length∧k≤8∧i=.int .i64 (k:Int)∧Is yI wr p (jf d (zs.take k))∧qz own w wr∧∀j,yI j→own j∨w.heap.size≤j
theorem qkV{Is:rX}(H:Impl Is){own:Nat→Prop}{p:Nat}{d:CH}(w:World)(hc:Is own w p d)(A:Option Addr)(cp:Nat)(zs:List (Int × UInt8))(hT:PtL w A zs)(hA:0<zs.length→∀b o,A=some ⟨b,o,none⟩→¬ own b)(hl:zs.length≤9223372036854775807) :
    Calls prog 92 #[.pointer (some ⟨p,0,none⟩),.slice A zs.length cp] w fun e w'=>e=.returned (.tuple #[])∧∃yI,Is yI w' p (jf d zs)∧qz own w w'∧∀j,yI j→own j∨w.heap.size≤j:=by
 have HT:=QH hT;have HC:=QH hc;have HA:=QH hA;clear hT hc hA;go_enter func92,ntmps92;go_wp2_with fail;go_loopw [4] (fun i wr=>q1U Is own p d zs w i wr) (fun i _=>9-(intOf i).toNat);case atStart=>exact⟨0,own,Nat.zero_le _,Nat.zero_le _,rfl,HC.out,qz.refl _ _,fun j h=>.inl h⟩
 case round =>
  obtain⟨k,yI,hk,hk9,rfl,hc,hb,hg⟩:=hrel;have HCK:=QH hc;have HB:=QH hb;have HG:=QH hg;have jt:Hid (w.heap.size≤wr.heap.size):=hb.size;clear hc hb hg;by_cases hgo:k<zs.length∧k<8
  ·obtain⟨hlt,q1V⟩:=hgo;obtain⟨bb,bo,rfl,hbb,c0,c1,cb⟩:=HT.out k hlt;have hbB:=HA.out (by omega) bb bo rfl;have xP:=QH (qep d zs k hlt q1V);have q0:wr.cell? ⟨bb,bo+k*2,none⟩=some (.int .i64 zs[k].1):=by rw[World.cell?_of_block (a:=⟨bb,bo+k*2,none⟩) (HB.out.block bb hbb hbB)];exact c0
   have q1:wr.cell? ⟨bb,bo+k*2+1,none⟩=some (.int .u8 (zs[k].2.toNat:Int)):=by rw[World.cell?_of_block (a:=⟨bb,bo+k*2+1,none⟩) (HB.out.block bb hbb hbB)];exact c1
   have j9:bb<wr.heap.size:=Nat.lt_of_lt_of_le hbb HB.out.size;have qb5:(k:Int)<(zs.length:Int):=by omega
   have zdy:(k:Int)<8:=by omega
   clear c0 c1;generalize zs[k]=x at *;have Q0:=QH q0;have Q1:=QH q1;have HCB:=QH cb;clear q0 q1 cb;have hcz:=x.2.toNat_lt;obtain⟨S,hS⟩:=QE (str (rep x.2 32));have HD:=QH (fun W=>qeo x.2 W);have HS:=QH hS;have h8:=qsH x.1;obtain⟨m1,hm1⟩:=QE (x.1.tmod 8);rw[hm1]at h8;have HM1:=QH hm1;obtain⟨m2,hm2⟩:=QE (m1+8);have nc:Hid (IntKind.i64.wrap (m1+8)=m2):=by unfold Hid;rw[← hm2];exact h8.1
   have HM3:Hid (m2.tmod 8=qbS x.1):=by unfold Hid;rw[← hm2];exact h8.2
   clear hS hm1 hm2 h8;go_wp2_with fail;refine qQ (by kernel_rfl) 15 [15,16,17,18,19,20,21,22,23,24,25,26,27,28,29] (by kernel_rfl) (RG (.pointer (some ⟨p,0,none⟩)) bb bo k zs.length cp x.1 x.2.toNat m1 m2 (qbS x.1) S) (qsN _ _ _ _ _ _ _ _ _ _ _ _) ?_ ?_
   ·intro i o vs ρ W hi ho hρ hfn hb hG;have t0:ρ (.tmp 0)=.pointer (some ⟨p,0,none⟩):=hρ.out 0 rfl;have t1:ρ (.tmp 1)=.slice (some ⟨bb,bo,none⟩) zs.length cp:=hρ.out 1 rfl;have t4:ρ (.tmp 4)=.int .i64 (k:Int):=hρ.out 4 rfl;have s1:=hρ.at_ 16 1 rfl;have s2:=hρ.at_ 17 2 rfl;have s3:=hρ.at_ 18 3 rfl;have s4:=hρ.at_ 19 4 rfl;have s5:=hρ.at_ 20 5 rfl;have s6:=hρ.at_ 21 6 rfl;have s7:=hρ.at_ 22 7 rfl;have s9:=hρ.at_ 24 9 rfl;have s10:=hρ.at_ 25 10 rfl;have s11:=hρ.at_ 26 11 rfl;have s12:=hρ.at_ 27 12 rfl;have tD:=hρ.at_ 28 13 rfl;have hc:=hρ.const;have q0:W.cell? ⟨bb,bo+k*2,none⟩=some (.int .i64 x.1):=by rw[hb.cell (p:=⟨bb,bo+k*2,none⟩) j9];exact Q0.out
    have q1:W.cell? ⟨bb,bo+k*2+1,none⟩=some (.int .u8 (x.2.toNat:Int)):=by rw[hb.cell (p:=⟨bb,bo+k*2+1,none⟩) j9];exact Q1.out
    rcases i with _|_|_|_|_|_|_|_|_|_|_|_|_|_|_|i;all_goals (first|omega|skip)
    all_goals simp only[QA,QB,QC,Option.some.injEq]at ho
    all_goals subst ho
    ·exact q9 (w':=W) (by unfold execOp;simp only[t0];go_simp) ⟨Below.refl _ _,rfl⟩
    ·exact q9 (w':=W) (by unfold execOp;simp only[t1];go_simp) ⟨Below.refl _ _,rfl⟩
    ·exact q9 (w':=W) (by unfold execOp;simp only[t4];go_simp) ⟨Below.refl _ _,rfl⟩
    ·have g1:vs 1=_:=hG 1 (by kernel_rfl);have g2:vs 2=_:=hG 2 (by kernel_rfl);exact q9 (w':=W) (by unfold execOp;simp only[s1,g1,s2,g2];go_simp) ⟨Below.refl _ _,rfl⟩
    ·have g3:vs 3=_:=hG 3 (by kernel_rfl);exact q9 (w':=W) (by unfold execOp;simp only[s3,g3];go_simp) ⟨Below.refl _ _,rfl⟩
    ·have g4:vs 4=_:=hG 4 (by kernel_rfl);exact q9 (w':=W) (by unfold execOp;simp only[s4,g4];go_simp) ⟨Below.refl _ _,rfl⟩
    ·have g5:vs 5=_:=hG 5 (by kernel_rfl);exact q9 (w':=W) (by unfold execOp;simp only[s5,g5,hc];go_simp;exact HM1.out) ⟨Below.refl _ _,rfl⟩
    ·have g6:vs 6=_:=hG 6 (by kernel_rfl);exact q9 (w':=W) (by unfold execOp;simp only[s6,g6,hc];go_simp;exact nc.out) ⟨Below.refl _ _,rfl⟩
    ·have g7:vs 7=_:=hG 7 (by kernel_rfl);exact q9 (w':=W) (by unfold execOp;simp only[s7,g7,hc];go_simp;exact HM3.out) ⟨Below.refl _ _,rfl⟩
    ·exact q9 (w':=W) (by unfold execOp;simp only[t1];go_simp) ⟨Below.refl _ _,rfl⟩
    ·exact q9 (w':=W) (by unfold execOp;simp only[t4];go_simp) ⟨Below.refl _ _,rfl⟩
    ·have g9:vs 9=_:=hG 9 (by kernel_rfl);have g10:vs 10=_:=hG 10 (by kernel_rfl);exact q9 (w':=W) (by unfold execOp;simp only[s9,g9,s10,g10];go_simp) ⟨Below.refl _ _,rfl⟩
    ·have g11:vs 11=_:=hG 11 (by kernel_rfl);exact q9 (w':=W) (by unfold execOp;simp only[s11,g11];go_simp) ⟨Below.refl _ _,rfl⟩
    ·have g12:vs 12=_:=hG 12 (by kernel_rfl);exact q9 (w':=W) (by unfold execOp;simp only[s12,g12];go_simp) ⟨Below.refl _ _,rfl⟩
    ·have g13:vs 13=_:=hG 13 (by kernel_rfl);refine qj (f:=14) (args:=#[.int .u8 (x.2.toNat:Int)]) (w':=W) (by unfold execOp;simp only[hc,hfn,tD,g13];go_simp) ((HD.out W).mono ?_);rintro e W' ⟨rfl,hb'⟩;exact⟨_,rfl,hb',by rw[HS.out];rfl⟩
   ·intro vs W hb hG;have g0:vs 0=_:=hG 0 (by decide);have g8:vs 8=_:=hG 8 (by decide);have g14:vs 14=_:=hG 14 (by decide);simp only[qR,qG,if_true];rw[g0,g8,g14];generalize vs 1=y1;generalize vs 2=y2;generalize vs 3=y3;generalize vs 4=y4;generalize vs 5=y5;generalize vs 6=y6;generalize vs 7=y7;generalize vs 9=y9;generalize vs 10=y10;generalize vs 11=y11;generalize vs 12=y12;generalize vs 13=y13;clear hG g0 g8 g14;simp only[Act.put,List.setIfInBounds_toArray,List.set_cons_succ,List.set_cons_zero];refine qJ (i:=15) (by kernel_rfl) rfl rfl ?_;go_simp;have hk8:kA (qbS x.1):=by unfold kA qbS;omega
    have hw:=H.write (qbS x.1) (rep x.2 32) (H.keep HCK.out (fun j hj=>hb.block j (H.low HCK.out j hj)) hb.size) hk8;rw[HS.out]at hw;refine hw.mono ?_;rintro e W5 ⟨rfl,qwZ,hc5,hb5,hg5⟩;have HC5:Hid (Is qwZ W5 p (jf d (zs.take (k+1)))):=by unfold Hid;rw[xP.out];exact hc5
    have yw:=QH ((HB.out.trans (qz.of_below (S:=fun _=>False) hb) (fun _ h=>h.elim)).trans hb5 (fun j h=>by
     rcases HG.out j h with h|h
     ·exact .inl h
     ·exact .inr h))
    have HG5:Hid (∀j,qwZ j→own j∨w.heap.size≤j):=fun j h=>by
     rcases hg5 j h with h|h
     ·exact HG.out j h
     ·have:=jt.out;have:=hb.size;exact .inr (by omega)
    clear hw hc5 hb5 hg5;go_simp;refine⟨by kernel_rfl,?_⟩;go_wp2_with fail;go_roundw;case rel=>exact⟨k+1,qwZ,by omega,by omega,by go_num,HC5.out,yw.out,HG5.out⟩
    case measure=>simp[intOf];omega
  ·have HE:=QH (qeq d zs k hk hk9 hgo);by_cases iY:(k:Int)<(zs.length:Int)
   ·have zt:¬ ((k:Int)<8):=by omega
    go_wp2_with fail
    go_end0
    exact⟨rfl,yI,by rw[← HE.out];exact HCK.out,HB.out,HG.out⟩
   ·go_wp2_with fail
    go_end0
    exact⟨rfl,yI,by rw[← HE.out];exact HCK.out,HB.out,HG.out⟩
def rdL (l:List Bt)(zs:List (Int × UInt8)):List Bt:=(jf ⟨l,[]⟩ zs).live
theorem lx (l:List Bt)(ss:List Sn)(x:Int × UInt8):wr1 ⟨l,ss⟩ x=⟨(wr1 ⟨l,[]⟩ x).live,ss⟩:=by
 unfold wr1 CH.write;dsimp only;split <;> rfl
theorem fold_eq:∀(zs:List (Int × UInt8)) (l:List Bt) (ss:List Sn),zs.foldl wr1 ⟨l,ss⟩=⟨(zs.foldl wr1 ⟨l,[]⟩).live,ss⟩
 | [],_,_=>rfl
 | x::zs,l,ss=>by
  rw[List.foldl_cons,List.foldl_cons,lx l ss x,lx l [] x,fold_eq zs _ ss]
theorem qkW(l:List Bt)(ss:List Sn)(zs:List (Int × UInt8)):jf ⟨l,ss⟩ zs=⟨rdL l zs,ss⟩:=by
 unfold rdL jf;rw[fold_eq]
theorem qxa{n:Nat}{l:List Bt}(h:qT n l)(x:Int × UInt8):qT n (wr1 ⟨l,[]⟩ x).live:=by
 unfold wr1 CH.write;split
 ·exact h
 ·rename_i hc;exact qnp h (by simpa using fun h1=>hc (.inr (.inr h1)))
theorem qis{n:Nat}:∀(zs:List (Int × UInt8)) (l:List Bt),qT n l→qT n (zs.foldl wr1 ⟨l,[]⟩).live
 | [],_,h=>h
 | x::zs,l,h=>by
  rw[List.foldl_cons,lx l [] x];exact qis zs _ (qxa h x)
theorem qxb{n:Nat}{l:List Bt}(h:qT n l)(zs:List (Int × UInt8)):qT n (rdL l zs):=qis _ l h
def lvZ (zT:List (List (Int × UInt8))):Nat→List Bt
 | 0=>uM 8
 | i+1=>rdL (lvZ zT i) (zT.getD i [])
theorem qpz(zT:List (List (Int × UInt8))):∀i,qT 8 (lvZ zT i)
 | 0=>qbh 8
 | i+1=>qxb (qpz zT i) _
theorem qxc(zT:List (List (Int × UInt8))):uY (lvZ zT):=⟨rfl,qpz zT⟩
theorem qp0(zT:List (List (Int × UInt8)))(k:Nat):jf (aL (lvZ zT) k) (zT.getD k [])=⟨lvZ zT (k+1),(aL (lvZ zT) k).qc⟩:=qkW _ _ _
theorem xp (e c:Nat)(w:World):Calls prog 40 #[.int .u64 (e:Int),.int .u64 (c:Int)] w fun x w'=>x=.returned (gv (e,c))∧Below w.heap.size w w':=by
 go_enter func40,ntmps40;go_wp2_with fail;have q0:(w.alloc (.cells #[.int .u64 (e:Int),.int .u64 (c:Int)] 38)).cell? ⟨w.heap.size,0,none⟩=some (.int .u64 (e:Int)):=(qf.new w _ _).cell 0;have q1:(w.alloc (.cells #[.int .u64 (e:Int),.int .u64 (c:Int)] 38)).cell? ⟨w.heap.size,1,none⟩=some (.int .u64 (c:Int)):=(qf.new w _ _).cell 1;refine bodyPost_ret (v:=gv (e,c)) (by simp[results,results40,go_sem,q0,q1,gv]) rfl ?_;exact⟨rfl,(Below.refl w.heap.size w).alloc (Nat.le_refl _) _⟩
end Go.Proofs.YtdpbdkacngaemaaGreatDoor.rv
namespace Go.Proofs.YtdpbdkacngaemaaGreatDoor.rv
open _root_.Go.Proofs.Tryz Go Go.RowKit Go.Sort ib
open ch (xB)
def qxd (w:World)(a:Option Addr)(zT:List (List (Int × UInt8))):Prop :=
 ∀i (h:i<zT.length),∃b o A c,a=some ⟨b,o,none⟩∧b<w.heap.size∧w.cell? ⟨b,o+i,none⟩=some (.slice A zT[i].length c)∧PtL w A zT[i]∧zT[i].length≤9223372036854775807
def q1W (IC:ch.rX)(zT:List (List (Int × UInt8)))(p:Nat)(w:World)(i:Value)(wr:World):Prop :=
 ∃(k:Nat) (own:Nat→Prop),k≤zT.length∧k≤8∧i=.int .i64 (k:Int)∧IC own wr p (aL (lvZ zT) k)∧Below w.heap.size w wr∧∀j,own j→w.heap.size≤j
def srN (zT:List (List (Int × UInt8))):Nat:=min zT.length 8
def SrP (IC:ch.rX)(zT:List (List (Int × UInt8)))(w:World)(e:Ending)(w':World):Prop:=∃p own,e=.returned (.pointer (some ⟨p,0,none⟩))∧IC own w' p (aL (lvZ zT) (srN zT))∧Below w.heap.size w w'∧∀j,own j→w.heap.size≤j
theorem qhn{IC:ch.rX}(H:ch.Impl IC)(A:Option Addr)(c:Nat)(zT:List (List (Int × UInt8)))(w:World)(hl:zT.length≤9223372036854775807)(hT:qxd w A zT) :
    Calls prog 33 #[.slice A zT.length c] w (SrP IC zT w):=by
 have HT:=QH hT;clear hT;go_enter func33,ntmps33;go_wp2_with fail;refine(H.wk 8 w (by decide) (by decide)).mono ?_;rintro e W1 ⟨p,own,rfl,hi1,hb,ho⟩;have HI:=QH hi1;have HB:=QH hb;have HO:=QH ho;clear hi1 hb ho;go_wp2_with fail;go_loopw [4] (fun i wr=>q1W IC zT p w i wr) (fun i _=>9-(intOf i).toNat);case atStart=>exact⟨0,own,Nat.zero_le _,Nat.zero_le _,rfl,HI.out,HB.out,HO.out⟩
 case round =>
  clear HI HB HO;obtain⟨k,yI,hk,hk8,rfl,hi,hb,ho⟩:=hrel;have HI:=QH hi;have HB:=QH hb;have HO:=QH ho;clear hi hb ho;by_cases hgo:k<zT.length∧k<8
  ·obtain⟨hlt,q1V⟩:=hgo;have yt:(k:Int)<(zT.length:Int):=by omega
   have zd1:(k:Int)<8:=by omega
   obtain⟨b,o,A1,c1,rfl,hbl,hc,hz,hzl⟩:=HT.out k hlt;have ec:wr.cell? ⟨b,o+k,none⟩=some (.slice A1 zT[k].length c1):=by rw[HB.out.cell (p:=⟨b,o+k,none⟩) hbl];exact hc
   have lc:b<wr.heap.size:=Nat.lt_of_lt_of_le hbl HB.out.size;have hgd:zT.getD k []=zT[k]:=by simp[List.getD,hlt]
   have HRO:Hid (jf (aL (lvZ zT) k) zT[k]=⟨lvZ zT (k+1),(aL (lvZ zT) k).qc⟩):=by
    unfold Hid;rw[← hgd];exact qp0 zT k
   have HAZ:Hid (0<zT[k].length→∀b o,A1=some ⟨b,o,none⟩→¬ yI b):=fun h0 b o e hw=>by
    obtain⟨b',o',e',h',_⟩:=hz 0 h0;rw[e]at e';cases e';have:=HO.out b hw;omega
   have HZ:=QH (hz.below HB.out);have HMW:Hid (w.heap.size≤wr.heap.size):=HB.out.size;clear hgd hz hc hbl;go_wp2_with fail;refine(qkV H wr HI.out A1 c1 zT[k] HZ.out HAZ.out hzl).mono ?_;rintro e V1 ⟨rfl,q67,hi1,hb1,ho1⟩;rw[HRO.out]at hi1;have HI1:=QH hi1;have qO:=QH (HB.out.trans (hb1.below (fun j hj=>HO.out j hj) HMW.out));have HO1:Hid (∀j,q67 j→w.heap.size≤j):=fun j hj=>by
    rcases ho1 j hj with h|h
    ·exact HO.out j h
    ·have:=HMW.out;omega
   clear hi1 hb1 ho1 HI HB HO HZ HAZ HMW HRO ec lc;go_wp2_with fail;refine(xp 1 (k+1) V1).mono ?_;rintro e V2 ⟨rfl,b2⟩;have HI2:=QH (H.keep HI1.out (fun j hj=>b2.block j (H.low HI1.out j hj)) b2.size);have qA:=QH (qa qO.out b2);clear b2 HI1 qO;go_wp2_with fail;refine(H.snap (1,k+1) HI2.out ⟨by show 1<_;omega,by show k+1<_;omega⟩).mono ?_;rintro e V3 ⟨rfl,aj,hi3,hb3,ho3⟩;rw[show((1,k+1):ch.Gd)=ch.jZ k from rfl,qsJ k (by omega)]at hi3;have HI3:=QH hi3;have zv:=QH (qA.out.trans (hb3.below (fun j hj=>HO1.out j hj) qA.out.size));have HO3:Hid (∀j,aj j→w.heap.size≤j):=fun j hj=>by
    rcases ho3 j hj with h|h
    ·exact HO1.out j h
    ·have:=qA.out.size;omega
   clear hi3 hb3 ho3 HI2 qA HO1;go_wp2_with fail;go_roundw;case rel=>exact⟨k+1,aj,by omega,by omega,by go_num,HI3.out,zv.out,HO3.out⟩
   case measure=>simp[intOf];omega
  ·have HE:Hid (srN zT=k):=by unfold Hid srN;omega
   by_cases iY:(k:Int)<(zT.length:Int)
   ·have zt:¬ ((k:Int)<8):=by omega
    go_wp2_with fail;go_ret;exact⟨p,yI,rfl,by rw[HE.out];exact HI.out,HB.out,HO.out⟩
   ·go_wp2_with fail;go_ret;exact⟨p,yI,rfl,by rw[HE.out];exact HI.out,HB.out,HO.out⟩
end Go.Proofs.YtdpbdkacngaemaaGreatDoor.rv
namespace Go.Proofs.YtdpbdkacngaemaaGreatDoor
open _root_.Go.Proofs.Tryz Go Go.ChangeShapes Go.WideShapes Go.Deep
theorem fU {H:Type}{enc:TypeId × Value→H}{P:Program}{w:World}{base:Nat}{spare:Nat→Bool}{held:Bool}{t e:TypeId}{fs:Array Field}{fuel:Nat}{cs:List Value}{x:DataW H × List MemPlace}
    (ht:P.underlying t=some (.slice e)) (he:P.underlying e=some (.struct fs)) (qkC:∀(i:Nat) (f:Field),fs[i]?=some f→f.offset=i∧P.cellsOf f.type=1) (ce:P.cellsOf e=fs.size)
    (h:DataW.trod enc P w base spare held fuel t cs=some x) :
    (cs=[.slice none 0 0]∧x=(.nil,[])) ∨
    ∃(a:Addr) (len cap m:Nat),cs=[.slice (some a) len cap]∧base≤a.block∧len≤cap∧cap≤maxLen∧m=(if spare a.block then cap else len) ∧
     ∀i,i<m→∀k f,fs[k]?=some f→∃v y n,w.cell? (a.add (i*fs.size+k))=some v∧DataW.trod enc P w base spare held n f.type [v]=some y:=by
 rcases open_slice ht h with h0|⟨a,len,cap,m,n,D,Pl,rfl,hb,hl,hm,hmm,rfl,hx⟩
 ·exact Or.inl h0
 right
 refine⟨a,len,cap,m,rfl,hb,hl,hm,hmm,fun i hi k f hk=>?_⟩;obtain⟨cs',h1,h2⟩:=hx i hi;rw[ce]at h1;obtain⟨_,hlen,hcell⟩:=World.cells?_some h1;obtain⟨xs,n',_,_,_,cZ,hf⟩:=DataW.trod_struct he h2;have hlt:k<fs.size:=(Array.getElem?_eq_some_iff.1 hk).1;obtain⟨ho,hc1⟩:=qkC k f hk;have g:=hf k f hk;rw[ho,hc1,take1_drop cs' k undef (by omega),List.getElem?_eq_getElem (by omega)]at g;have hcl:=hcell k hlt;rw[add_add,List.getElem?_eq_getElem (by omega)]at hcl;refine⟨cs'.getD k undef,_,n',?_,g⟩;rw[hcl];simp[List.getD,List.getElem?_eq_getElem (show k<cs'.length by omega)]
end Go.Proofs.YtdpbdkacngaemaaGreatDoor
namespace Go.Proofs.YtdpbdkacngaemaaGreatDoor.rv
open _root_.Go.Proofs.Tryz Go Go.RowKit Go.ChangeShapes Go.WideShapes Go.Deep ib ch
theorem qer{w:World}{a:Addr}{v:Value}(h:w.cell? (a.add 0)=some v):∃b o,a=⟨b,o,none⟩∧b<w.heap.size:=by
 have hs:=World.cell?_spot h;obtain⟨b,o,s⟩:=a;have hs0:s=none:=by simpa[Addr.add]using hs
 subst hs0;exact⟨b,o,rfl,World.block_lt_of_cell? w _ h⟩
theorem xD {α:Type}{p:Nat→α→Prop}:∀(n:Nat),(∀i,i<n→∃x,p i x)→∃l:List α,l.length=n∧∀i (h:i<l.length),p i l[i]
 | 0,_=>⟨[],rfl,fun i h=>absurd h (by simp)⟩
 | n+1,h=>by
  obtain⟨l,hl,hp⟩:=xD n (fun i hi=>h i (by omega));obtain⟨x,hx⟩:=h n (by omega);refine⟨l++[x],by simp[hl],fun i hi=>?_⟩;by_cases hin:i<l.length
  ·rw[List.getElem_append_left hin];exact hp i hin
  ·have:i=l.length:=by simp at hi;omega
   subst this;rw[List.getElem_append_right (Nat.le_refl _)];simpa[hl]using hx
theorem qp1{x:Int}(h:(Lit.int .u8 x).wf=true):∃c:UInt8,x=(c.toNat:Int):=by
 have hb:=bounds_u8 h;exact⟨UInt8.ofNat x.toNat,by rw[UInt8.toNat_ofNat'];omega⟩
theorem hone_of{P:Program}{fs:Array Field}(h:(List.range fs.size).all (fun i=>match fs[i]? with|some f=>decide (f.offset=i)&&decide (P.cellsOf f.type=1)|none=>true)=true):∀(i:Nat) (f:Field),fs[i]?=some f→f.offset=i∧P.cellsOf f.type=1:=by
 intro i f hf;have hi:=(Array.getElem?_eq_some_iff.1 hf).1;have:=List.all_eq_true.1 h i (List.mem_range.2 hi);rw[hf]at this;simpa using this
section
variable {H:Type} {enc:TypeId × Value→H} {w:World} {held:Bool} {a:Option Addr} {l c:Nat} {d:DataW H} {pl:List MemPlace}
theorem qbX{n:Nat}{v:Value}{y:DataW H × List MemPlace}(h:DataW.trod enc prog w 0 (fun _=>true) held n 42 [v]=some y):∃(A:Option Addr) (zs:List (Int × UInt8)) (c:Nat),v=.slice A zs.length c∧PtL w A zs∧zs.length≤9223372036854775807:=by
 rcases fU underlying42 underlying79 (hone_of (by kernel_rfl)) (by kernel_rfl) h with⟨hcs,_⟩|⟨x,l',c',m,hcs,_,hl,hm,hmm,hi⟩
 ·simp at hcs;subst hcs;exact⟨none,[],0,rfl,fun i h=>absurd h (by simp),by simp⟩
 ·simp at hcs;subst hcs;simp only[if_true]at hmm;subst hmm;unfold maxLen at hm;obtain⟨zs,hzl,hz⟩:=xD (p:=fun i (z:Int × UInt8)=>w.cell? (x.add (i*2))=some (.int .i64 z.1)∧w.cell? (x.add (i*2+1))=some (.int .u8 (z.2.toNat:Int))∧kA z.1) l' (fun i dP=>by
   obtain⟨v0,y0,n0,e0,g0⟩:=hi i (by omega) 0 _ rfl;obtain⟨v1,y1,n1,e1,g1⟩:=hi i (by omega) 1 _ rfl;obtain⟨k0,h0,_,b0⟩:=DataW.trod_int underlying3 g0;obtain⟨k1,h1,_,b1⟩:=DataW.trod_int underlying5 g1;obtain⟨c1,rfl⟩:=qp1 b1;obtain rfl:v0=_:=by simpa using h0
   obtain rfl:v1=_:=by simpa using h1
   exact⟨⟨k0,c1⟩,e0,e1,bounds_i64 b0⟩)
  subst hzl;refine⟨some x,zs,_,rfl,fun i dP=>?_,by omega⟩;have h0:=(hz 0 (by omega)).1;rw[Nat.zero_mul]at h0;obtain⟨b,o,rfl,hb⟩:=qer h0;have:=hz i dP;rw[addr_add,addr_add]at this;simp only[Nat.add_assoc]at this ⊢;exact⟨b,o,rfl,hb,this⟩
theorem qp2(h:DataW.Trod enc prog w 0 (fun _=>true) held 63 (.slice a l c) d pl):∃zs:List (List (Int × UInt8)),zs.length=l∧l≤9223372036854775807∧qxd w a zs:=by
 obtain⟨fuel,hf⟩:=h;rcases open_slice1 underlying63 (by kernel_rfl) hf with⟨hcs,_⟩|⟨x,l',c',m,n,V,D,Pl,hcs,_,hl,hm,hmm,_,hi⟩
 ·simp[Value.cells]at hcs;obtain⟨rfl,rfl,rfl⟩:=hcs;exact⟨[],rfl,by omega,fun i h=>absurd h (by simp)⟩
 ·simp[Value.cells]at hcs;obtain⟨rfl,rfl,rfl⟩:=hcs;simp only[if_true]at hmm;subst hmm;unfold maxLen at hm;obtain⟨zs,hzl,hz⟩:=xD (p:=fun i (z:List (Int × UInt8))=>∃A k,w.cell? (x.add i)=some (.slice A z.length k)∧PtL w A z∧z.length≤9223372036854775807) l (fun i dP=>by
   obtain⟨h1,h2⟩:=hi i (by omega);obtain⟨A,z,k,h3,h4,h5⟩:=qbX h2;exact⟨z,A,k,by rw[h1,h3],h4,h5⟩)
  refine⟨zs,hzl,by omega,fun i dP=>?_⟩;obtain⟨_,_,h0,_⟩:=hz 0 (by omega);obtain⟨b,o,rfl,hb⟩:=qer h0;obtain⟨A,k,h1,h2,h3⟩:=hz i dP;rw[addr_add]at h1;exact⟨b,o,A,k,rfl,hb,h1,h2,h3⟩
end
end Go.Proofs.YtdpbdkacngaemaaGreatDoor.rv
namespace Go.Proofs.YtdpbdkacngaemaaGreatDoor.dk
open _root_.Go.Proofs.Tryz Go Go.RowKit Go.ChangeShapes Go.WideShapes Go.Deep
def q1X (w:World)(a:Option Addr)(zs:List UInt8):Prop :=
 ∀i (h:i<zs.length),∃b o,a=some ⟨b,o,none⟩∧b<w.heap.size∧w.cell? ⟨b,o+i,none⟩=some (.int .u8 (zs[i].toNat:Int))
theorem qp1{n:Int}(h:(Lit.int .u8 n).wf=true):∃c:UInt8,n=(c.toNat:Int):=by
 have hb:=bounds_u8 h;refine⟨UInt8.ofNat n.toNat,?_⟩;rw[kG _ (by omega)];omega
theorem qer{w:World}{a:Addr}{v:Value}(h:w.cell? (a.add 0)=some v):∃b o,a=⟨b,o,none⟩∧b<w.heap.size:=by
 have hs:=World.cell?_spot h;obtain⟨b,o,s⟩:=a;have hs0:s=none:=by simpa[Addr.add]using hs
 subst hs0;exact⟨b,o,rfl,World.block_lt_of_cell? w _ h⟩
theorem xD {α:Type}{p:Nat→α→Prop}:∀(n:Nat),(∀i,i<n→∃x,p i x)→∃l:List α,l.length=n∧∀i (h:i<l.length),p i l[i]
 | 0,_=>⟨[],rfl,fun i h=>absurd h (by simp)⟩
 | n+1,h=>by
  obtain⟨l,hl,hp⟩:=xD n (fun i hi=>h i (by omega));obtain⟨x,hx⟩:=h n (by omega);refine⟨l++[x],by simp[hl],fun i hi=>?_⟩;by_cases hin:i<l.length
  ·rw[List.getElem_append_left hin];exact hp i hin
  ·have:i=l.length:=by simp at hi;omega
   subst this;rw[List.getElem_append_right (Nat.le_refl _)];simpa[hl]using hx
section
variable {H:Type} {enc:TypeId × Value→H} {w:World} {held:Bool} {a:Option Addr} {l c:Nat} {d:DataW H} {pl:List MemPlace}
theorem q39(h:DataW.Trod enc prog w 0 (fun _=>true) held 80 (.slice a l c) d pl):∃zs:List Int,zs.length=l∧l≤9223372036854775807∧qI w a zs:=by
 obtain⟨fuel,hf⟩:=h;rcases open_ints underlying80 underlying3 (by kernel_rfl) hf with⟨hcs,_⟩|⟨x,l',c',zs,hcs,_,hl,hm,hz,_,hcell,hwf⟩
 ·simp[Value.cells]at hcs;obtain⟨rfl,rfl,rfl⟩:=hcs;exact⟨[],rfl,by omega,fun i h=>absurd h (by simp)⟩
 ·simp[Value.cells]at hcs;obtain⟨rfl,rfl,rfl⟩:=hcs;have hzc:zs.length=c:=by simpa using hz
  unfold maxLen at hm;refine⟨zs.take l,by simp;omega,by omega,fun i hi=>?_⟩;have dP:i<zs.length:=by simp at hi;omega
  obtain⟨b,o,rfl,hb⟩:=qer (hcell 0 (by omega));have hc:=hcell i dP;rw[addr_add]at hc;have hw:=bounds_i64 (hwf zs[i] (List.getElem_mem dP));refine⟨b,o,rfl,hb,?_,by simpa using hw.1,by simpa using hw.2⟩;rw[hc];simp[List.getD,dP]
theorem qxf(h:DataW.Trod enc prog w 0 (fun _=>true) held 64 (.slice a l c) d pl):∃zs:List UInt8,zs.length=l∧l≤9223372036854775807∧q1X w a zs:=by
 obtain⟨fuel,hf⟩:=h;rcases open_slice1 underlying64 (by kernel_rfl) hf with⟨hcs,_⟩|⟨x,l',c',m,n,V,D,Pl,hcs,_,hl,hm,hmm,_,hi⟩
 ·simp[Value.cells]at hcs;obtain⟨rfl,rfl,rfl⟩:=hcs;exact⟨[],rfl,by omega,fun i h=>absurd h (by simp)⟩
 ·simp[Value.cells]at hcs;obtain⟨rfl,rfl,rfl⟩:=hcs;simp only[if_true]at hmm;subst hmm;unfold maxLen at hm;obtain⟨zs,hzl,hz⟩:=xD (p:=fun i (z:UInt8)=>w.cell? (x.add i)=some (.int .u8 (z.toNat:Int))) l (fun i dP=>by
   obtain⟨h1,h2⟩:=hi i (by omega);obtain⟨k,h3,_,h4⟩:=DataW.trod_int underlying5 h2;obtain⟨c,rfl⟩:=qp1 h4;have h3':V i=.int .u8 (c.toNat:Int):=by simpa using h3
   exact⟨c,by rw[h1,h3']⟩)
  refine⟨zs,hzl,by omega,fun i dP=>?_⟩;obtain⟨b,o,rfl,hb⟩:=qer (hz 0 (by omega));have:=hz i dP;rw[addr_add]at this;exact⟨b,o,rfl,hb,this⟩
end
end Go.Proofs.YtdpbdkacngaemaaGreatDoor.dk
namespace Go.Proofs.YtdpbdkacngaemaaGreatDoor.rv
open _root_.Go.Proofs.Tryz Go Go.RowKit vt ib jr mt im sp
def MdP (IV:jw)(b:Nat)(w:World)(e:Ending)(w':World):Prop :=
 ∃v pd t d o1 o2,e=.returned (.tuple #[.pointer (some ⟨pd,0,none⟩),.pointer (some ⟨v,0,none⟩)])∧VP IV w' o1 o2 v pd d (m0 b) false∧JJ 500 t d∧yb b 500 t (m0 b)∧d.qy=0∧Below w.heap.size w w'∧∀j,o1 j∨o2 j→w.heap.size≤j
theorem qes{IV:jw}(H:jP IV)(b:Nat)(h1:1≤b)(h8:b≤8)(w:World)(ht:xY w):Calls prog 34 #[.int .i64 (b:Int)] w (MdP IV b w):=by
 go_enter func34,ntmps34;go_wp2_with fail;refine(dk.wk 1000 500 500 (by decide) (by decide) (by decide) (by decide) w).mono ?_;rintro e W1 ⟨pd,o,rfl,hd,hb1,ho⟩;go_wp2_with fail;refine(H.qad b 500 500 hd (yN ht hb1 (xG ht)) (fun h=>by have h1:=ho _ h;have h2:=xG ht;omega) h1 h8 (by decide) (by decide) (by decide)).mono ?_;rintro e W2 ⟨rfl,t,d,o',hd2,hj,hr,hf,jx,ho'⟩;have hs1:=hb1.size;have hb2:Below w.heap.size w W2:=hb1.trans (jx.below (fun j hj=>ho j hj) hs1);have ho2:∀j,o' j→w.heap.size≤j:=fun j hj=>by
  rcases ho' j hj with h|h
  ·exact ho j h
  ·omega
 have hs2:=hb2.size;have ht2:xY W2:=yN ht hb2 (xG ht);have hn2:¬ o' gN:=fun h=>by have h1:=ho2 _ h;have h2:=xG ht;omega
 clear hd hb1 ho jx ho' hs1;go_wp2_with fail;refine(H.qbm hd2 ht2 hn2 hj.toRJ hf hr).mono ?_;rintro e W3 ⟨v,d',o1,o2,rfl,hv,hj',hf',jx,h1',h2'⟩;have hb3:Below w.heap.size w W3:=hb2.trans (jx.below (fun j hj=>ho2 j hj) hs2);have ho3:∀j,o1 j∨o2 j→w.heap.size≤j:=fun j hj=>by
  rcases hj with hj|hj
  ·have:=h1' j hj;omega
  ·rcases h2' j hj with h|h
   ·exact ho2 j h
   ·omega
 have HV:=QH hv;clear hv hd2 hj jx h1' h2' hb2 ho2;go_wp2_with fail;go_ret2;exact⟨v,pd,t,d',o1,o2,rfl,HV.out,hj',hr,hf',hb3,ho3⟩
end Go.Proofs.YtdpbdkacngaemaaGreatDoor.rv
namespace Go.Proofs.YtdpbdkacngaemaaGreatDoor.rv
open _root_.Go.Proofs.Tryz Go Go.RowKit ib mt st
open vt (jw jP VP DD Ke gN)
def V2 (IV:jw)(w:World)(B:Nat)(X:Nat→Prop)(v pd:Nat)(d:DD)(m:Mt)(l:Bool):Prop :=
 ∃o1 o2,VP IV w o1 o2 v pd d m l∧(∀j,o1 j∨o2 j→B≤j∧¬ X j)∧(∀j,X j→j<w.heap.size)∧gN<B∧¬ X gN
section
variable {IV:jw} (H:jP IV) {w w':World} {B v pd:Nat} {X Y:Nat→Prop} {d:DD} {m:Mt} {l:Bool}
include H
theorem V2.below(h:V2 IV w B X v pd d m l)(hb:Below w.heap.size w w'):V2 IV w' B X v pd d m l:=by
 obtain⟨o1,o2,h1,h2,h3,h4⟩:=h;exact⟨o1,o2,qZ H h1 hb,h2,fun j hj=>Nat.lt_of_lt_of_le (h3 j hj) hb.size,h4⟩
theorem V2.more(h:V2 IV w B X v pd d m l)(hb:Below w.heap.size w w')(hY:∀j,Y j→X j∨(w.heap.size≤j∧j<w'.heap.size)):V2 IV w' B Y v pd d m l:=by
 obtain⟨o1,o2,h1,h2,h3,h4⟩:=h;refine⟨o1,o2,qZ H h1 hb,fun j hj=>⟨(h2 j hj).1,fun hy=>?_⟩,fun j hj=>?_,h4.1,fun hy=>?_⟩
 ·rcases hY j hy with h|h
  ·exact(h2 j hj).2 h
  ·have:=h1.low H j (.inl hj);omega
 ·rcases hY j hj with h|h
  ·exact Nat.lt_of_lt_of_le (h3 j h) hb.size
  ·exact h.2
 ·rcases hY gN hy with h|h
  ·exact h4.2 h
  ·have:=h1.low H gN (.inr rfl);omega
theorem V2.turn{S:Nat→Prop}(h:V2 IV w B X v pd d m l)(hb:qz S w w')(hS:∀j,S j→X j∨w.heap.size≤j)(hY:∀j,Y j→X j∨(w.heap.size≤j∧j<w'.heap.size)):V2 IV w' B Y v pd d m l:=by
 obtain⟨o1,o2,h1,h2,h3,h4⟩:=h;have hl:=h1.low H;refine⟨o1,o2,h1.keep H (fun j hj=>hb.block j (hl j hj) fun hs=>?_) hb.size,fun j hj=>⟨(h2 j hj).1,fun hy=>?_⟩,fun j hj=>?_,h4.1,fun hy=>?_⟩
 ·rcases hS j hs with h|h
  ·rcases hj with hj|rfl
   ·exact(h2 j hj).2 h
   ·exact h4.2 h
  ·have:=hl j hj;omega
 ·rcases hY j hy with h|h
  ·exact(h2 j hj).2 h
  ·have:=hl j (.inl hj);omega
 ·rcases hY j hj with h|h
  ·exact Nat.lt_of_lt_of_le (h3 j h) hb.size
  ·exact h.2
 ·rcases hY gN hy with h|h
  ·exact h4.2 h
  ·have:=hl gN (.inr rfl);omega
theorem V2.tab(h:V2 IV w B X v pd d m l):xY w:=by
 obtain⟨o1,o2,h1,_⟩:=h;exact H.tab h1.is
omit H in
theorem V2.xlt(h:V2 IV w B X v pd d m l):∀j,X j→j<w.heap.size:=by
 obtain⟨o1,o2,h1,h2,h3,_⟩:=h;exact h3
omit H in
theorem qp3(h:V2 IV w B X v pd d m l)(hB:B≤w.heap.size){f:Nat}{args:Array Value}{Q:Int→DD→Mt→Bool→Prop}(hc:∀o1 o2,VP IV w o1 o2 v pd d m l→(∀j,o1 j∨o2 j→B≤j∧¬ X j)→Calls prog f args w (vt.qbl IV o1 o2 v pd Q w)) :
    Calls prog f args w fun e w'=>∃r d' m' l',e=.returned (.int .i64 r)∧V2 IV w' B X v pd d' m' l'∧Ke B X w w'∧Q r d' m' l':=by
 obtain⟨o1,o2,h1,h3,h5⟩:=h;refine(hc o1 o2 h1 h3).mono ?_;rintro e w' ⟨r,d',m',l',sK,iV,he,hp,hb,hg,hq⟩;refine⟨r,d',m',l',he,⟨sK,iV,hp,fun j hj=>?_,fun j hj=>Nat.lt_of_lt_of_le (h5.1 j hj) hb.size,h5.2⟩,hb.mono h3,hq⟩;rcases hg j hj with h|h
 ·exact h3 j h
 ·exact⟨by omega,fun hx=>by have:=h5.1 j hx;omega⟩
theorem qsO{N b:Nat}{t:vt.Tg}{m':Mt}(h:V2 IV w B X v pd d m l)(hB:B≤w.heap.size)(hj:jr.RJ N t d)(hf:d.qy=0)(hr:vt.yb b N t m'):Calls prog 11 #[pt pd] w
      fun e w'=>∃v' d',e=.returned (.tuple #[pt v',.int .i64 0])∧V2 IV w' B X v' pd d' m' false∧jr.JJ N t d'∧d'.qy=0∧Ke B X w w':=by
 obtain⟨o1,o2,h1,h8,h10⟩:=h;refine(H.qbm h1.dk (H.tab h1.is) (h1.dj gN (.inr rfl)) hj hf hr).mono ?_;rintro e w' ⟨v',d',q1,q2,rfl,hv,hj',hf',jx,g1,g2⟩;refine⟨v',d',rfl,⟨q1,q2,hv,fun j hj=>?_,fun j hj=>Nat.lt_of_lt_of_le (h10.1 j hj) jx.size,h10.2⟩,hj',hf',jx.mono fun j hj=>h8 j (.inr hj)⟩;have hnew:w.heap.size≤j→B≤j∧¬ X j:=fun h=>⟨by omega,fun hx=>by have:=h10.1 j hx;omega⟩;rcases hj with hj|hj
 ·exact hnew (g1 j hj)
 ·rcases g2 j hj with h|h
  ·exact h8 j (.inr h)
  ·exact hnew h
theorem nB {N b:Nat}{t:vt.Tg}(h:V2 IV w B X v pd d m false)(hB:B≤w.heap.size)(A:Option Addr)(cp:Nat)(p:Pa)(hJ:jr.JJ N t d)(hf:0≤d.qy)(hR:vt.yb b N t m)(hp:az w A cp p)(hs:p.zR.length≤1000)(hA:∀b o,A=some ⟨b,o,none⟩→X b) :
    Calls prog 25 #[pt v,.agg (jg p A cp)] w fun e w'=>∃r d' m' l',e=.returned (.int .i64 r)∧V2 IV w' B X v pd d' m' l'∧Ke B X w w'∧qei N t d m p r d' m' l' :=
 qp3 h hB (fun o1 o2 hv ho=>kL H A cp p hv hJ hf hR hp hs (fun b o e=>⟨fun h1=>(ho b (.inl h1)).2 (hA b o e),fun h2=>(ho b (.inr h2)).2 (hA b o e)⟩))
end
theorem zW {W W':World}{A:Option Addr}{c:Nat}{p:Pa}(h:az W A c p)(hs:W.heap.size≤W'.heap.size)(hk:∀b o,A=some ⟨b,o,none⟩→b<W.heap.size→W'.heap[b]?=W.heap[b]?):az W' A c p:=by
 refine⟨fun i hi=>?_,h.base,h.target,h.fr,h.all⟩;obtain⟨b,o,e1,e2,e3,e4,e5⟩:=h.zR i hi;have hb:=hk b o e1 e2;exact⟨b,o,e1,Nat.lt_of_lt_of_le e2 hs,by rw[World.cell?_of_block (a:=⟨b,o+i*2,none⟩) hb];exact e3,by rw[World.cell?_of_block (a:=⟨b,o+i*2+1,none⟩) hb];exact e4,e5⟩
section
variable {IV:jw} {lv:Nat→List Bt} {M k j N:Nat} {t:vt.Tg} {d d':DD} {m m':Mt} {r:Int} {l':Bool}
theorem qkY(hv:uY lv)(h:Rc lv M k j t m)(hk:k<M)(hM:M≤8)(hR:vt.yb 8 N t m)(hN:377≤N)(hj:jr.JJ N t d)(hf:d.qy=0)(hq:qei N t d m (gQ lv k j) r d' m' l') :
    r=0∧l'=false∧d'.qy=0∧∃t',jr.JJ N t' d'∧vt.yb 8 N t' m'∧Rc lv M (nxt lv k j).1 (nxt lv k j).2 t' m':=by
 have ha:=qpy hv h hk hR.ok.len;obtain⟨P,hP⟩:=QE (vt.xr N m (jW (gQ lv k j)) (gQ lv k j).zR);obtain⟨c0,hok,hw,hrc⟩:=qkU hv h hk hM hR hN hP;rcases hq with⟨h0,_⟩|⟨_,hq⟩
 ·exact absurd ha h0
 ·rw[hP]at hq;rcases hq with⟨h0,_⟩|⟨_,rfl,hj',rfl,rfl,hf',_⟩|⟨_,_,_,_,hf',_⟩
  ·exact absurd c0 h0
  ·exact⟨rfl,rfl,hf' hf,_,hj',hR.next hok hw,hrc⟩
  ·exact absurd hf hf'
theorem qp4(hv:uY lv)(h:Rc lv M k j t m){k' j':Nat}(ho:k'<k∨(k'=k∧j'<j∧k<M))(hq:qei N t d m (gQ lv k' j') r d' m' l'):d'=d∧m'=m∧l'=false:=by
 rcases hq with⟨_,_,h1,h2,h3⟩|⟨h0,_⟩
 ·exact⟨h1,h2,h3⟩
 ·exact absurd h0 (qaV hv h ho)
end
end Go.Proofs.YtdpbdkacngaemaaGreatDoor.rv

/- StPure, StMem, StAb, StMay, StRMay, StChk, RvLast, RvAsked. -/
import Derived.Test.YtdpbdkacngaemaaGreatDoorZK19
set_option linter.unusedVariables false
set_option linter.unusedSimpArgs false
set_option maxHeartbeats 30000000
set_option maxRecDepth 100000
namespace Go.Proofs.YtdpbdkacngaemaaGreatDoor.st
open _root_.Go.Proofs.Tryz Go Go.RowKit wi mt
abbrev Ch:=Int × List UInt8
structure Pa where
 base:Gd
 target:Gd
 fr:Int
 all:Int
 zF:List Ch
 deriving DecidableEq
def pa0:Pa:=⟨(0,0),(0,0),0,0,[]⟩
def cj:Int→List Ch→Bool
 | _,[]=>true
 | least,c::r=>decide (least≤c.1)&&decide (c.1<8)&&decide (c.2.length=32)&&cj (c.1+1) r
def may (l:List Ch):Bool:=cj 0 l
def qlv (p:Pa):Bool:=!above p.target p.base || decide (p.all<0) || decide (8<p.all) || decide (p.fr<0) || decide (p.all<p.fr+p.zF.length) || decide (2<p.zF.length) || (decide (p.zF.length=0)&&decide (0<p.all)) || !may p.zF
def xU (p:Pa):Int:=if qlv p=true then 2 else 0
def tH (b t:Gd)(l:List Ch)(fr:Int):Bool:=!above t b || !may l || decide (fr<0) || decide (max (l.length:Int) 1≤fr)
def qbK (b t:Gd)(l:List Ch)(fr:Int):Pa × Int:=if tH b t l fr=true then(pa0,2)else(⟨b,t,fr,l.length,(l.drop fr.toNat).take 2⟩,0)
def chB (c:Ch):List UInt8:=xz c.1++dP c.2
def qh2 (l:List Ch):List UInt8:=l.flatMap chB
def headB (p:Pa):List UInt8:=jn p.base++(jn p.target++(xz p.fr++(xz p.all++zk p.zF.length)))
def nv (p:Pa):List UInt8:=headB p++qh2 p.zF
def qs1 (p:Pa):List UInt8 × Int:=if xU p≠0 then([],2)else(wY (nv p),0)
def qfi (s:St):List UInt8 × St:=match s with
 | none=>([],none)
 | some l=>match yJ l with
  | none=>([],none)
  | some (t,r)=>(t,some r)
def rCh (s:St):Ch × St:=((((min (zP s).1 99:Nat):Int),(qfi (zP s).2).1),(qfi (zP s).2).2)
def qh3:Nat→St→List Ch × St
 | 0,s=>([],s)
 | n+1,s=>((rCh s).1::(qh3 n (rCh s).2).1,(qh3 n (rCh s).2).2)
def rP (s:St):Pa × St :=
 let b:=jS s;let t:=jS b.2;let f:=zP t.2;let a:=zP f.2;let n:=zP a.2;let c:=qh3 (min n.1 9) n.2
 (⟨b.1,t.1,((min f.1 99:Nat):Int),((min a.1 99:Nat):Int),c.1⟩,c.2)
def qx5 (s:List UInt8):Pa × Int:=match qj5 s with
 | none=>(pa0,4)
 | some l=>if qs1 (rP (some l)).1=(s,0)then((rP (some l)).1,0)else(pa0,4)
theorem tI:∀ {l:List Ch} {k:Int},cj k l=true→∀c∈l,k≤c.1∧c.1<8∧c.2.length=32
 | [],_,_,c,hc=>absurd hc (by simp)
 | x::r,k,h,c,hc=>by
  unfold cj at h;simp only[Bool.and_eq_true,decide_eq_true_eq]at h;obtain⟨⟨⟨h1,h2⟩,h3⟩,h4⟩:=h;rcases List.mem_cons.1 hc with rfl|hc
  ·exact⟨h1,h2,h3⟩
  ·have:=tI h4 c hc;omega
structure Ok(p:Pa):Prop where
 all:0≤p.all∧p.all≤8
 fr:0≤p.fr∧p.fr+p.zF.length≤p.all
 few:p.zF.length≤2
 zF:∀c∈p.zF,0≤c.1∧c.1<8∧c.2.length=32
theorem wK {p:Pa}(h:xU p=0):Ok p:=by
 unfold xU at h;split at h
 ·cases h
 ·rename_i h1;unfold qlv at h1;simp only[Bool.or_eq_true,not_or,Bool.not_eq_true,decide_eq_true_eq]at h1;obtain⟨⟨⟨⟨⟨⟨⟨_,e1⟩,e2⟩,e3⟩,e4⟩,e5⟩,_⟩,e7⟩:=h1;simp only[decide_eq_false_iff_not,Bool.not_eq_false']at *;exact⟨by omega,by omega,by omega,tI e7⟩
theorem qh4(t:List UInt8)(h:t.length<18446744073709551616)(r:List UInt8):qfi (some (dP t++r))=(t,some r):=by
 unfold qfi;simp only[iW t h]
theorem qo4(c:Ch)(h:0≤c.1∧c.1<8∧c.2.length=32)(r:List UInt8):rCh (some (chB c++r))=(c,some r):=by
 obtain⟨z,t⟩:=c;dsimp only at h;unfold rCh chB xz;dsimp only;rw[List.append_assoc,ym _ (by omega)];simp only;rw[qh4 _ (by omega),Nat.min_eq_left (by omega),Int.toNat_of_nonneg h.1]
theorem qbL:∀(l:List Ch) (_:∀c∈l,0≤c.1∧c.1<8∧c.2.length=32) (r:List UInt8),qh3 l.length (some (qh2 l++r))=(l,some r)
 | [],_,r=>rfl
 | c::l,h,r=>by
  have e:qh2 (c::l)++r=chB c++(qh2 l++r):=by simp[qh2]
  show qh3 (l.length+1) (some (qh2 (c::l)++r))=_;rw[e];unfold qh3;rw[qo4 c (h c (by simp))];simp only;rw[qbL l (fun x hx=>h x (by simp[hx])) r]
theorem qs2(p:Pa)(hb:zV p.base)(ht:zV p.target)(h:Ok p):rP (some (nv p))=(p,some []):=by
 obtain⟨h1,h2,h3,h4⟩:=h;unfold rP nv headB;simp only[List.append_assoc];rw[uf _ hb];simp only;rw[uf _ ht];simp only;unfold xz;rw[ym _ (by omega)];simp only;rw[ym _ (by omega)];simp only;rw[ym _ (by omega)];simp only;have hc:=qbL p.zF h4 [];rw[List.append_nil]at hc;rw[Nat.min_eq_left (show p.zF.length≤9 by omega),hc,Nat.min_eq_left (show p.fr.toNat≤99 by omega),Nat.min_eq_left (show p.all.toNat≤99 by omega),Int.toNat_of_nonneg h2.1,Int.toNat_of_nonneg h1.1]
theorem qs3{p:Pa}(h:xU p=0):qs1 p=(wY (nv p),0):=by
 unfold qs1;rw[if_neg (by rw[h];decide)]
theorem rr {p:Pa}(hb:zV p.base)(ht:zV p.target)(h:xU p=0):qx5 (wY (nv p))=(p,0):=by
 unfold qx5;rw[qaM];dsimp only;rw[qs2 p hb ht (wK h)];dsimp only;rw[if_pos (qs3 h)]
end Go.Proofs.YtdpbdkacngaemaaGreatDoor.st
namespace Go.Proofs.YtdpbdkacngaemaaGreatDoor.st
open _root_.Go.Proofs.Tryz Go Go.RowKit ib wi mt
open ch (kX xy xj jY)
@[go_sem] theorem q2a (a c:Int) (b d:ByteArray) (w:World):(Op.equalIn 10000 122 (.agg #[.int .i64 a,.string b]) (.agg #[.int .i64 c,.string d])).run prog w=.ok (a == c&&b.toList == d.toList) w:=by
 have u3:=underlying3;have a3:=isAgg3;have z3:=sizeOf3;have u4:=underlying9;have a4:=isAgg9;have z4:=sizeOf9;rw[show(10000:Nat)=9999+1 from rfl,run_equalIn_agg w 9999 122 _ _ (by kernel_rfl) (by kernel_rfl)];simp only[Program.fieldsOf,underlying122];go_simp;by_cases h1:a=c <;> by_cases h2:b.toList=d.toList <;> simp[h1,h2]
abbrev pt (b:Nat):Value:=.pointer (some ⟨b,0,none⟩)
def jg (p:Pa)(A:Option Addr)(c:Nat):Array Value:=#[.int .u64 (p.base.1:Int),.int .u64 (p.base.2:Int),.int .u64 (p.target.1:Int),.int .u64 (p.target.2:Int),.int .i64 p.fr,.int .i64 p.all,.slice A p.zF.length c]
structure iR(w:World)(A:Option Addr)(c:Nat)(p:Pa):Prop where
 zF:kX w A p.zF
 base:zV p.base
 target:zV p.target
 fr:zJ p.fr
 all:zJ p.all
theorem iR.below{w w':World}{A:Option Addr}{c:Nat}{p:Pa}(h:iR w A c p)(hb:Below w.heap.size w w'):iR w' A c p:=⟨h.zF.below hb,h.base,h.target,h.fr,h.all⟩
def qs4 (w:World)(v:Value)(p:Pa):Prop:=∃A c,v=.agg (jg p A c)∧iR w A c p
theorem qs4.below{w w':World}{v:Value}{p:Pa}(h:qs4 w v p)(hb:Below w.heap.size w w'):qs4 w' v p:=by
 obtain⟨A,c,h1,h2⟩:=h;exact⟨A,c,h1,h2.below hb⟩
def qf4 (r:Pa × Int)(w:World)(e:Ending)(w':World):Prop:=∃A c,e=.returned (.tuple #[.agg (jg r.1 A c),.int .i64 r.2])∧iR w' A c r.1∧ir w w' A∧Below w.heap.size w w'
def qqv (r:List UInt8 × Int)(w:World)(e:Ending)(w':World):Prop:=e=.returned (.tuple #[.string (str r.1),.int .i64 r.2])∧Below w.heap.size w w'
theorem aQ:zV ((0,0):Gd):=⟨by decide,by decide⟩
theorem q2b(w:World):iR w none 0 pa0:=⟨kX.nil _ _,aQ,aQ,by unfold zJ pa0;decide,by unfold zJ pa0;decide⟩
end Go.Proofs.YtdpbdkacngaemaaGreatDoor.st
namespace Go.Proofs.YtdpbdkacngaemaaGreatDoor.st
open _root_.Go.Proofs.Tryz Go Go.RowKit Go.Sort ib wi mt
open ch (kX xy xj jY)
theorem qs5(a b:Gd)(w:World):Calls prog 158 #[gv a,gv b] w (kE (above a b) w):=by
 obtain⟨a1,a2⟩:=a;obtain⟨b1,b2⟩:=b;have HR:Hid (above (a1,a2) (b1,b2)=(decide ((b1:Int)<(a1:Int)) || (decide ((a1:Int)=(b1:Int))&&decide ((b2:Int)<(a2:Int))))):=by
  unfold Hid above;simp[Int.ofNat_inj]
 show Calls prog 158 #[.agg #[.int .u64 (a1:Int),.int .u64 (a2:Int)],.agg #[.int .u64 (b1:Int),.int .u64 (b2:Int)]] w _;obtain⟨r,hr⟩:=QE (above (a1,a2) (b1,b2));rw[hr]at HR ⊢;generalize (a1:Int)=x1 at *;generalize (a2:Int)=x2 at *;generalize (b1:Int)=y1 at *;generalize (b2:Int)=y2 at *;clear hr;have hB1:=(Below.refl w.heap.size w).alloc (Nat.le_refl _) (.cells #[.int .u64 x1,.int .u64 x2] 38);have HB:=QH (hB1.alloc hB1.size (.cells #[.int .u64 y1,.int .u64 y2] 38));clear hB1;by_cases h1:y1<x1
 ·have HT:Hid (r=true):=by unfold Hid;rw[HR.out];simp[h1]
  clear HR;go_enter func158,ntmps158;go_wp2_with fail;go_ret;rw[HT.out];exact⟨rfl,HB.out⟩
 ·by_cases h2:x1=y1
  ·subst h2;by_cases h3:y2<x2
   ·have HT:Hid (r=true):=by unfold Hid;rw[HR.out];simp[h3]
    clear HR;go_enter func158,ntmps158;go_wp2_with fail;go_ret;rw[HT.out];exact⟨rfl,HB.out⟩
   ·have HT:Hid (r=false):=by unfold Hid;rw[HR.out];simp[h3]
    clear HR;go_enter func158,ntmps158;go_wp2_with fail;go_ret;rw[HT.out];exact⟨rfl,HB.out⟩
  ·have HT:Hid (r=false):=by unfold Hid;rw[HR.out];simp[h1,h2]
   have hq:(x1 == y1)=false:=by simpa using h2
   clear HR;go_enter func158,ntmps158;go_wp2_with fail;go_ret;rw[HT.out];exact⟨rfl,HB.out⟩
theorem uU (a b:Gd)(w:World):Calls prog 150 #[gv a,gv b] w (kE (above a b) w):=by
 obtain⟨a1,a2⟩:=a;obtain⟨b1,b2⟩:=b;have HR:Hid (above (a1,a2) (b1,b2)=(decide ((b1:Int)<(a1:Int)) || (decide ((a1:Int)=(b1:Int))&&decide ((b2:Int)<(a2:Int))))):=by
  unfold Hid above;simp[Int.ofNat_inj]
 show Calls prog 150 #[.agg #[.int .u64 (a1:Int),.int .u64 (a2:Int)],.agg #[.int .u64 (b1:Int),.int .u64 (b2:Int)]] w _;obtain⟨r,hr⟩:=QE (above (a1,a2) (b1,b2));rw[hr]at HR ⊢;generalize (a1:Int)=x1 at *;generalize (a2:Int)=x2 at *;generalize (b1:Int)=y1 at *;generalize (b2:Int)=y2 at *;clear hr;have hB1:=(Below.refl w.heap.size w).alloc (Nat.le_refl _) (.cells #[.int .u64 x1,.int .u64 x2] 38);have HB:=QH (hB1.alloc hB1.size (.cells #[.int .u64 y1,.int .u64 y2] 38));clear hB1;by_cases h2:x1=y1
 ·subst h2;have hq:(x1 != x1)=false:=by simp
  have HT:Hid (decide (y2<x2)=r):=by unfold Hid;rw[HR.out];simp
  clear HR;go_enter func150,ntmps150;go_wp2_with fail;go_ret;rw[← HT.out];exact⟨rfl,HB.out⟩
 ·have hq:(x1 != y1)=true:=by simpa using h2
  have HT:Hid (decide (y1<x1)=r):=by unfold Hid;rw[HR.out];simp[h2]
  clear HR;go_enter func150,ntmps150;go_wp2_with fail;go_ret;rw[← HT.out];exact⟨rfl,HB.out⟩
def ny (k:Int)(c:Ch):Bool:=decide (k≤c.1)&&decide (c.1<8)&&decide (c.2.length=32)
def uL:Int→List Ch→Int
 | k,[]=>k
 | _,c::r=>uL (c.1+1) r
theorem r9:∀(l:List Ch) (k:Int) (x:Ch),cj k (l++[x])=(cj k l&&ny (uL k l) x)
 | [],k,x=>by
  show(ny k x&&true)=(true&&ny k x);rw[Bool.and_true,Bool.true_and]
 | c::l,k,x=>by
  have ih:=r9 l (c.1+1) x;simp only[List.cons_append,cj,uL,ih,Bool.and_assoc]
theorem ik:∀(l:List Ch) (k:Int) (x:Ch),uL k (l++[x])=x.1+1
 | [],_,_=>rfl
 | c::l,k,x=>ik l _ x
theorem qbM:∀(l r:List Ch) (k:Int),cj k l=false→cj k (l++r)=false
 | [],r,k,h=>by cases h
 | c::l,r,k,h=>by
  simp only[List.cons_append,cj]at h ⊢;cases hc:(decide (k≤c.1)&&decide (c.1<8)&&decide (c.2.length=32))with
  | false=>simp
  | true =>
   rw[hc,Bool.true_and]at h;rw[qbM l r _ h];simp
theorem qs6{l:List Ch}{k:Nat}(h:may (l.take k)=false):may l=false:=by
 have:=qbM (l.take k) (l.drop k) 0 h
 rwa [List.take_append_drop]at this
theorem qlw{l:List Ch}{k:Nat}(h:k<l.length):may (l.take (k+1))=(may (l.take k)&&ny (uL 0 (l.take k)) l[k]):=by
 unfold may;rw[List.take_succ_eq_append_getElem h,r9]
def qfj (g:Nat)(k:Int)(c:Ch)(w:World)(e:Ending)(w':World):Prop :=
 e=.returned (.bool (ny k c))∧qB (fun j=>j=g) w w'∧(ny k c=true→qh w' g 3 #[.int .i64 (c.1+1)])
theorem vd (g:Nat)(k:Int)(c:Ch)(w:World)(hk:zJ k)(hc:zJ c.1)(h:qh w g 3 #[.int .i64 k]) :
    Calls prog 226 #[.agg #[.int .i64 c.1,.string (str c.2)],pt g] w (qfj g k c w):=by
 obtain⟨z,d⟩:=c;have hz:=qO d;have HPU:Hid (ny k (z,d)=(decide (k≤z)&&decide (z<8)&&decide (d.length=32))):=rfl;obtain⟨r,hr⟩:=QE (ny k (z,d));unfold qfj;rw[hr]at HPU ⊢;clear hr;dsimp only at hc ⊢;obtain⟨S,hS⟩:=QE (str d);rw[hS]at hz ⊢;clear hS;unfold zJ at hc hk;have hb:=(Below.refl w.heap.size w).alloc (Nat.le_refl _) (.cells #[.int .i64 z,.string S] 122);have hx:=qh.new w 122 #[.int .i64 z,.string S];have jQ:=h.lt;have hg2:=h.below hb;have hbu:qB (fun j=>j=g) w (w.alloc (.cells #[.int .i64 z,.string S] 122)):=qB.of_below hb;obtain⟨W,hW⟩:=QE (w.alloc (.cells #[.int .i64 z,.string S] 122));rw[hW]at hx hg2 hbu;have HBU:=QH hbu;have HG:=QH hg2;have c0:=hx.cell 0;have c1:=hx.cell 1;have fG:=hx.lt;have g0:=hg2.cell 0;have gl:=hg2.lt;have gf:=hg2.frozen 0;simp only[QA,QB,QC]at c0 c1 g0;have wF:Hid (∀u:Int,(r=true→u=z+1)→(qB (fun j=>j=g) w (W.setCell ⟨g,0,none⟩ (.int .i64 u))∧(r=true→qh (W.setCell ⟨g,0,none⟩ (.int .i64 u)) g 3 #[.int .i64 (z+1)]))):=fun u hu =>
  ⟨HBU.out.setCell _ _ (.inl rfl),fun hr=>by rw[hu hr];exact HG.out.qu 0 (.int .i64 (z+1))⟩
 clear hb hx hg2 hbu h jQ;by_cases h1:k≤z
 ·by_cases h2:z<8
  ·by_cases h3:d.length=32
   ·have hd:((S.size:Int) == 32)=true:=by rw[hz,h3];rfl
    have HT:Hid (r=true):=by unfold Hid;rw[HPU.out];simp[h1,h2,h3]
    clear HPU hz h3;go_enter func226,ntmps226;go_upto_region 1 with fail;try rw[hW]
    clear hW;go_wp2_with fail;go_ret;rw[HT.out];exact⟨rfl,by have:=wF.out (z+1) (fun _=>rfl);rw[HT.out]at this;exact this⟩
   ·have hd:((S.size:Int) == 32)=false:=by rw[hz];simp;omega
    have HT:Hid (r=false):=by unfold Hid;rw[HPU.out];simp[h3]
    clear HPU hz h3;go_enter func226,ntmps226;go_upto_region 1 with fail;try rw[hW]
    clear hW;go_wp2_with fail;go_ret;rw[HT.out];exact⟨rfl,by have:=wF.out (z+1) (fun _=>rfl);rw[HT.out]at this;exact this⟩
  ·have HT:Hid (r=false):=by unfold Hid;rw[HPU.out];simp[h2]
   clear HPU hz;go_enter func226,ntmps226;go_upto_region 1 with fail;try rw[hW]
   clear hW;go_wp2_with fail;all_goals
    go_ret;have q:=fun u=>wF.out u (fun h=>absurd (HT.out.symm.trans h) (by decide));rw[HT.out]at q ⊢;exact⟨rfl,q _⟩
 ·have HT:Hid (r=false):=by unfold Hid;rw[HPU.out];simp[h1]
  clear HPU hz;go_enter func226,ntmps226;go_upto_region 1 with fail;try rw[hW]
  clear hW;go_wp2_with fail;all_goals
   go_ret;have q:=fun u=>wF.out u (fun h=>absurd (HT.out.symm.trans h) (by decide));rw[HT.out]at q ⊢;exact⟨rfl,q _⟩
def qs7 (l:List Ch)(g:Nat)(w:World)(i:Value)(wr:World):Prop :=
 ∃k:Nat,k≤l.length∧i=.int .i64 (k:Int)∧may (l.take k)=true∧qh wr g 3 #[.int .i64 (uL 0 (l.take k))]∧zJ (uL 0 (l.take k))∧Below w.heap.size w wr
theorem ra (A:Option Addr)(cp:Nat)(l:List Ch)(w:World)(h:kX w A l)(hl:l.length≤9223372036854775807) :
    Calls prog 151 #[.slice A l.length cp] w (kE (may l) w):=by
 have HC:=QH h;have hb0:=(Below.refl w.heap.size w).alloc (Nat.le_refl _) (.cells #[.int .i64 0] 3);have HG0:=QH (qh.new w 3 #[.int .i64 0]);have jT:=QH hb0;clear h hb0;obtain⟨len,hlen⟩:=QE l.length;have HLEN:=QH hlen;rw[hlen]at hl ⊢;clear hlen;go_enter func151,ntmps151;go_wp2_with fail;obtain⟨W0,hW0⟩:=QE (w.alloc (.cells #[.int .i64 0] 3));rw[hW0]at HG0 jT;try rw[hW0]
 clear hW0;obtain⟨g,hg⟩:=QE w.heap.size;have dm:=QH (Nat.le_of_eq hg);rw[hg]at HG0;try rw[hg]
 clear hg;go_loopw [6,10] (fun _ i wr=>qs7 l g w i wr) (fun _ i _=>len-(intOf i).toNat);case atStart=>exact⟨0,Nat.zero_le _,rfl,rfl,HG0.out,by show zJ 0;unfold zJ;omega,jT.out⟩
 case round =>
  obtain⟨k,hk,rfl,hm,hG,hb,hB⟩:=hrel;have HM:=QH hm;have HG:=QH hG;have HBB:=QH hb;have HB:=QH hB;rw[HLEN.out]at hk;clear hm hG hb hB;by_cases hlt:k<len
  ·have ja:(k:Int)<(len:Int):=by omega
   have nM:k<l.length:=by rw[HLEN.out];exact hlt
   obtain⟨bb,bo,rfl,hbb,c0,c1,cb⟩:=HC.out k nM;have uh:=QH (qlw nM);have HLS:Hid (uL 0 (l.take (k+1))=l[k].1+1):=by unfold Hid;rw[List.take_succ_eq_append_getElem nM,ik]
   have jK:Hid (may (l.take (k+1))=false→may l=false):=fun h=>qs6 h;obtain⟨x,hx⟩:=QE (l[k]);have HXM:Hid (x∈l.take (k+1)):=by unfold Hid;rw[List.take_succ_eq_append_getElem nM,hx];simp
   rw[hx]at c0 c1 cb uh HLS;have HCB:=QH cb;have e0:wr.cell? ⟨bb,bo+k*2,none⟩=some (.int .i64 x.1):=by rw[HB.out.cell (p:=⟨bb,bo+k*2,none⟩) hbb];exact c0
   have e1:wr.cell? ⟨bb,bo+k*2+1,none⟩=some (.string (str x.2)):=by rw[HB.out.cell (p:=⟨bb,bo+k*2+1,none⟩) hbb];exact c1
   have lb:bb<wr.heap.size:=Nat.lt_of_lt_of_le hbb HB.out.size;clear hx c0 c1 cb;obtain⟨W1,hW1⟩:=QE (wr.alloc (.cells #[.int .i64 x.1,.string (str x.2)] 122));have hb1:Below wr.heap.size wr W1:=by rw[← hW1];exact(Below.refl _ wr).alloc (Nat.le_refl _) _
   have hX:qh W1 wr.heap.size 122 #[.int .i64 x.1,.string (str x.2)]:=by rw[← hW1];exact qh.new _ _ _
   have qU:=QH (qc HB.out hb1);have HG1:=QH (HG.out.below hb1);have x0:=hX.cell 0;have x1:=hX.cell 1;have fG:=hX.lt;simp only[QA,QB,QC]at x0 x1;clear hb1 hX;go_upto_region 6 with fail;try rw[hW1]
   clear hW1 e0 e1;go_wp2_with fail;refine(vd g _ x W1 HBB.out HCB.out HG1.out).mono ?_;rintro e W2 ⟨rfl,hbu,hG2⟩;have qG:Hid (Below w.heap.size w W2):=qU.out.trans (hbu.below (fun j hj=>by rw[hj];exact dm.out) qU.out.size);have HG2:=QH hG2;obtain⟨r,hr⟩:=QE (ny (uL 0 (l.take k)) x);rw[hr]at uh HG2 ⊢;clear hbu hG2 x0 x1 fG hr;cases r with
   | true =>
    have HTR:Hid (may (l.take (k+1))=true):=by unfold Hid;rw[uh.out,HM.out];rfl
    have HF:Hid (ny (uL 0 (l.take k)) x=true→x.1<8):=fun h=>by unfold ny at h;simp only[Bool.and_eq_true,decide_eq_true_eq]at h;exact h.1.2
    have HX8:Hid (zJ (x.1+1)):=by
     have h:=HCB.out;have h2:=tI HTR.out x HXM.out;unfold zJ at h;unfold Hid zJ;omega
    go_wp2_with fail;go_roundw;case rel=>exact⟨k+1,by rw[HLEN.out];omega,by go_num,HTR.out,by rw[HLS.out];exact HG2.out (by first|rfl|trivial),by rw[HLS.out];exact HX8.out,qG.out⟩
    case measure=>simp[intOf];omega
   | false =>
    have tT:Hid (may l=false):=jK.out (by rw[uh.out,HM.out];rfl);go_wp2_with fail;go_ret;rw[tT.out];exact⟨rfl,qG.out⟩
  ·have ja:¬ (k:Int)<(len:Int):=by omega
   have HT:Hid (may l=true):=by
    have:=HM.out
    rwa [List.take_of_length_le (by rw[HLEN.out];omega)]at this
   go_wp2_with fail;go_ret;rw[HT.out];exact⟨rfl,HB.out⟩
theorem qs8{p:Pa}(h:above p.target p.base=false∨p.all<0∨8<p.all∨p.fr<0∨p.all<p.fr+p.zF.length∨2<p.zF.length∨(p.zF.length=0∧0<p.all)∨may p.zF=false):xU p=2:=by
 unfold xU;rw[if_pos];unfold qlv;simp only[Bool.or_eq_true,Bool.and_eq_true,Bool.not_eq_true',decide_eq_true_eq];rcases h with h|h|h|h|h|h|h|h <;> simp only[h,true_or,or_true,and_self]
theorem qo5{p:Pa}(h0:above p.target p.base=true)(h1:¬ p.all<0)(h2:¬ 8<p.all)(h3:¬ p.fr<0)(h4:¬ p.all<p.fr+p.zF.length)(h5:¬ 2<p.zF.length)(h6:¬ (p.zF.length=0∧0<p.all))(h7:may p.zF=true):xU p=0:=by
 unfold xU;rw[if_neg];unfold qlv;simp only[Bool.or_eq_true,Bool.and_eq_true,Bool.not_eq_true',decide_eq_true_eq,h0,h7];simp only[h1,h2,h3,h4,h5,h6,or_false,Bool.true_eq_false,not_false_eq_true]
theorem dv (A:Option Addr)(cp:Nat)(p:Pa)(w:World)(h:iR w A cp p)(hs:p.zF.length≤1000):Calls prog 79 #[.agg (jg p A cp)] w (ai (xU p) w):=by
 have hb:=(Below.refl w.heap.size w).alloc (Nat.le_refl _) (.cells (jg p A cp) 41);have ha:=qh.new w 41 (jg p A cp);obtain⟨W,hW⟩:=QE (w.alloc (.cells (jg p A cp) 41));rw[hW]at hb ha;have HP:=QH (h.below hb);have HB:=QH hb;have HA:=QH ha;have HAB:Hid (∀W,Calls prog 150 #[gv p.target,gv p.base] W (kE (above p.target p.base) W)):=fun W=>uU _ _ W;have yu:=QH (fun h=>qs8 (p:=p) h);have rf:=QH (fun h0 h1 h2 h3 h4 h5 h6 h7=>qo5 (p:=p) h0 h1 h2 h3 h4 h5 h6 h7);have fF:=h.all;have hfr:=h.fr;unfold zJ at fF hfr;have HML:Hid (p.zF.length≤1000):=hs;clear h hb ha;obtain⟨⟨b1,b2⟩,⟨t1,t2⟩,fr,all,zF⟩:=p;unfold jg gv at *;dsimp only at *;obtain⟨n,hn⟩:=QE zF.length;have HN:=QH hn;rw[hn]at hs hW HA yu rf ⊢;have ha:=HA.out;have a0:=ha.cell 0;have a1:=ha.cell 1;have a2:=ha.cell 2;have a3:=ha.cell 3;have a4:=ha.cell 4;have a5:=ha.cell 5;have a6:=ha.cell 6;have dI:=ha.lt;simp only[QA,QB,QC]at a0 a1 a2 a3 a4 a5 a6;clear ha hn;obtain⟨K,hK⟩:=QE (xU ⟨(b1,b2),(t1,t2),fr,all,zF⟩);rw[hK]at yu rf ⊢;obtain⟨R,hR⟩:=QE (above (t1,t2) (b1,b2));rw[hR]at HAB yu rf;obtain⟨M,hM⟩:=QE (may zF);rw[hM]at yu rf;have HM:=QH hM;clear hK hR hM;go_enter func79,ntmps79;go_upto_region 2 with fail;try rw[hW]
 clear hW;go_wp2_with fail;refine(HAB.out W).mono ?_;rintro e W1 ⟨rfl,hb1⟩;have qU:=QH (qc HB.out hb1);have rU:=QH (HP.out.below hb1);have ha:=HA.out.below hb1;clear hb1 a0 a1 a2 a3 a4 a5 a6 dI HA HP HB HAB;have a4:=ha.cell 4;have a5:=ha.cell 5;have a6:=ha.cell 6;have dI:=ha.lt;simp only[QA,QB,QC]at a4 a5 a6;clear ha;cases R with
 | false =>
  obtain rfl:K=2:=yu.out (.inl rfl);go_wp2_with fail;go_ret;exact⟨rfl,qU.out⟩
 | true =>
  by_cases h1:all<0
  ·obtain rfl:K=2:=yu.out (.inr (.inl h1));go_wp2_with fail;go_ret;exact⟨rfl,qU.out⟩
  by_cases h2:8<all
  ·obtain rfl:K=2:=yu.out (.inr (.inr (.inl h2)));go_wp2_with fail;go_ret;exact⟨rfl,qU.out⟩
  by_cases h3:fr<0
  ·obtain rfl:K=2:=yu.out (.inr (.inr (.inr (.inl h3))));go_wp2_with fail;go_ret;exact⟨rfl,qU.out⟩
  by_cases h4:all<fr+n
  ·have h4':all-fr<(n:Int):=by omega
   obtain rfl:K=2:=yu.out (.inr (.inr (.inr (.inr (.inl h4)))));go_wp2_with fail;go_ret;exact⟨rfl,qU.out⟩
  have h4':¬ all-fr<(n:Int):=by omega
  by_cases h5:2<n
  ·have h5':(2:Int)<(n:Int):=by omega
   obtain rfl:K=2:=yu.out (.inr (.inr (.inr (.inr (.inr (.inl h5))))));go_wp2_with fail;go_ret;exact⟨rfl,qU.out⟩
  have h5':¬ (2:Int)<(n:Int):=by omega
  by_cases h6:n=0∧0<all
  ·obtain⟨nL,h61⟩:=h6;have h62:((n:Int) == 0)=true:=by subst nL;rfl
   obtain rfl:K=2:=yu.out (.inr (.inr (.inr (.inr (.inr (.inr (.inl ⟨nL,h61⟩)))))));go_wp2_with fail;go_ret;exact⟨rfl,qU.out⟩
  have HG:=QH (fun q=>rf.out rfl (by omega) (by omega) (by omega) (by omega) (by omega) (by omega) q);have HMC:=QH (ra A cp zF W1 rU.out.zF (by have:=HML.out;omega));rw[HN.out]at HMC;clear rf;by_cases nL:n=0
  ·have h61:¬ 0<all:=fun h=>h6 ⟨nL,h⟩;have h62:((n:Int) == 0)=true:=by subst nL;rfl
   clear h6 nL;go_wp2_with fail;refine HMC.out.mono ?_;rintro e W2 ⟨rfl,hb2⟩;have qG:=QH (qc qU.out hb2);rw[HM.out];clear hb2 a4 a5 a6 dI;cases M with
   | false =>
    obtain rfl:K=2:=yu.out (.inr (.inr (.inr (.inr (.inr (.inr (.inr rfl)))))));go_wp2_with fail;go_ret;exact⟨rfl,qG.out⟩
   | true =>
    obtain rfl:K=0:=HG.out rfl;go_wp2_with fail;go_ret;exact⟨rfl,qG.out⟩
  ·have h62:((n:Int) == 0)=false:=by simpa using nL
   clear h6 nL;go_wp2_with fail;refine HMC.out.mono ?_;rintro e W2 ⟨rfl,hb2⟩;have qG:=QH (qc qU.out hb2);rw[HM.out];clear hb2 a4 a5 a6 dI;cases M with
   | false =>
    obtain rfl:K=2:=yu.out (.inr (.inr (.inr (.inr (.inr (.inr (.inr rfl)))))));go_wp2_with fail;go_ret;exact⟨rfl,qG.out⟩
   | true =>
    obtain rfl:K=0:=HG.out rfl;go_wp2_with fail;go_ret;exact⟨rfl,qG.out⟩
end Go.Proofs.YtdpbdkacngaemaaGreatDoor.st
namespace Go.Proofs.YtdpbdkacngaemaaGreatDoor.rv
open _root_.Go.Proofs.Tryz Go Go.RowKit Go.Sort ib mt st
open ch (kX)
def kd (gs:List Gd):Gd:=gs.getLast?.getD (0,0)
theorem qh5{gs:List Gd}(h:gs.length=0):kd gs=(0,0):=by
 unfold kd;rw[List.length_eq_zero_iff.1 h];rfl
theorem qh6{gs:List Gd}{k:Nat}(h:k<gs.length)(h1:k+1=gs.length):kd gs=gs[k]:=by
 unfold kd;rw[List.getLast?_eq_getElem?,show gs.length-1=k by omega,List.getElem?_eq_getElem h];rfl
theorem il (m:Mt):kd (m.qd.map (·.g))=vt.qI m:=by
 unfold kd vt.qI;rw[List.getLast?_map];cases m.qd.getLast? <;> rfl
def okG (g:Gd)(w:World)(e:Ending)(w':World):Prop:=e=.returned (gv g)∧Below w.heap.size w w'
theorem nz {gs:List Gd}{p:Value}{w:World}(hl:gs.length≤1000)(hL:∀W,Below w.heap.size w W→Calls prog 37 #[p] W (ch.qbd gs W)) :
    Calls prog 81 #[p] w (okG (kd gs) w):=by
 have hb1:=(Below.refl _ w).alloc (Nat.le_refl _) (.cells #[.int .u64 0,.int .u64 0] 38);have hr1:=qh.new w 38 #[.int .u64 0,.int .u64 0];obtain⟨W1,hW1⟩:=QE (w.alloc (.cells #[.int .u64 0,.int .u64 0] 38));rw[hW1]at hb1 hr1;obtain⟨g,hg⟩:=QE w.heap.size;have HL:=QH (hL W1 hb1);have qU:=QH hb1;rw[hg]at hr1;have tO:=QH hr1;have dm:Hid (w.heap.size≤g):=Nat.le_of_eq hg;have HGG:=QH hg;have HW1:=QH hW1;clear hb1 hr1 hL hg hW1;go_enter func81,ntmps81;go_upto_region 1 with fail;try rw[HW1.out]
 try rw[HGG.out]
 clear HW1 HGG;go_wp2_with fail;refine HL.out.mono ?_;rintro e W2 ⟨A,cc,rfl,jQ,-,hb⟩;have qG:=QH (qc qU.out hb);have hr2:=tO.out.below hb;have uS:=QH hr2;have HG:=QH jQ;have r0:=hr2.cell 0;have r1:=hr2.cell 1;have f0:=hr2.frozen 0;have f1:=hr2.frozen 1;have hrl:=hr2.lt;simp only[QA,QB,QC]at r0 r1;have xn:Hid (∀(a b:Nat) W,qh W g 38 #[.int .u64 (a:Int),.int .u64 (b:Int)]→(loadVar 38 ⟨g,0,none⟩).run prog W=.ok (.agg #[.int .u64 (a:Int),.int .u64 (b:Int)]) W):=fun a b W hW =>
  run_loadVar_row W g 38 38 _ (0,0) _ hW underlying38 rfl (by kernel_rfl)
 have wF:Hid (∀(a b:Nat),qh ((W2.setCell ⟨g,0,none⟩ (.int .u64 (a:Int))).setCell ⟨g,1,none⟩ (.int .u64 (b:Int))) g 38 #[.int .u64 (a:Int),.int .u64 (b:Int)]∧Below w.heap.size w ((W2.setCell ⟨g,0,none⟩ (.int .u64 (a:Int))).setCell ⟨g,1,none⟩ (.int .u64 (b:Int)))):=fun a b =>
  ⟨by have:=(hr2.qu 0 (.int .u64 (a:Int))).qu 1 (.int .u64 (b:Int));simpa using this,(qG.out.setCell (p:=⟨g,0,none⟩) dm.out _).setCell (p:=⟨g,1,none⟩) dm.out _⟩
 clear jQ hb hr2 HL tO qU;by_cases h0:gs.length=0
 ·have HLG:=QH (qh5 h0);have hz:((gs.length:Int) == 0)=true:=by rw[h0];rfl
  clear h0;go_wp2_with fail;refine bodyPost_ret (v:=.agg #[.int .u64 0,.int .u64 0]) (im.zx rfl _ _ _ ⟨g,0,none⟩ _ rfl (xn.out 0 0 _ (wF.out 0 0).1)) rfl ⟨by rw[HLG.out];rfl,(wF.out 0 0).2⟩
 ·obtain⟨k,hk⟩:∃k,gs.length=k+1:=⟨gs.length-1,by omega⟩;have nM:k<gs.length:=by omega
  have HLG:=QH (qh6 nM hk.symm);obtain⟨b,o,rfl,s2,s3,s4,_⟩:=HG.out k nM;generalize gs[k]=gg at *;obtain⟨ga,gb⟩:=gg;dsimp only at s3 s4;have hw:IntKind.i64.wrap ((gs.length:Int)-1)=(k:Int):=by rw[IntWalk.i64_in _ (by omega)];omega
  have ja:(k:Int)<(gs.length:Int):=by omega
  have hk0:¬ (k:Int)<0:=by omega
  have hnz:((gs.length:Int) == 0)=false:=beq_false_of_ne (by omega);clear hk h0;go_wp2_with fail;refine bodyPost_ret (v:=.agg #[.int .u64 (ga:Int),.int .u64 (gb:Int)]) (im.zx rfl _ _ _ ⟨g,0,none⟩ _ rfl (xn.out ga gb _ (wF.out ga gb).1)) rfl ⟨by rw[HLG.out];rfl,(wF.out ga gb).2⟩
theorem vz (w:World)(X:Array Value):∃W,w.alloc (.cells X 41)=W∧qh W w.heap.size 41 X∧Below w.heap.size w W :=
 ⟨_,rfl,qh.new _ _ _,(Below.refl _ _).alloc (Nat.le_refl _) _⟩
def gC (g:Gd):Array Value:=#[.int .u64 (g.1:Int),.int .u64 (g.2:Int)]
theorem qej(A:Option Addr)(cp:Nat)(p:Pa)(g:Gd)(b:Nat)(w:World)(hb0:qh w b 38 (gC g)) :
    Calls prog 152 #[.agg (jg p A cp),.pointer (some ⟨b,0,none⟩)] w (ai (if p.base=g then 0 else 9) w):=by
 obtain⟨W,hW,ha,hb⟩:=vz w (jg p A cp);have hg:=hb0.below hb;have a0:=ha.cell 0;have a1:=ha.cell 1;have fF:=ha.lt;have g0:=hg.cell 0;have g1:=hg.cell 1;have jQ:=hg.lt;simp only[jg,gC,QA,QB,QC]at a0 a1 g0 g1;have HB:=QH hb;have HQ:=QH (quq p.base g);unfold jg at hW ⊢;generalize (p.base.1:Int)=x1 at *;generalize (p.base.2:Int)=x2 at *;generalize (g.1:Int)=y1 at *;generalize (g.2:Int)=y2 at *;clear ha hb hg hb0;by_cases he:p.base=g
 ·rw[if_pos he];have hq:=HQ.out;rw[decide_eq_true he]at hq;simp only[Bool.and_eq_true,beq_iff_eq]at hq;obtain⟨rfl,rfl⟩:=hq;clear he HQ;go_enter func152,ntmps152;go_upto_region 1 with fail;try rw[hW]
  clear hW;go_wp2_with fail;go_ret;exact⟨rfl,HB.out⟩
 ·rw[if_neg he];have hq:=HQ.out;rw[decide_eq_false he]at hq;obtain⟨q1,hq1⟩:=QE (x1 == y1);obtain⟨q2,nS⟩:=QE (x2 == y2);rw[hq1,nS]at hq;clear he HQ;go_enter func152,ntmps152;go_upto_region 1 with fail;try rw[hW]
  clear hW;cases q1 <;> cases q2 <;> try cases hq;all_goals
   go_wp2_with fail;go_ret;exact⟨rfl,HB.out⟩
def within (b:Nat)(p:Pa):Bool:=decide (p.all≤(b:Int))&&p.zF.all fun c=>decide (c.1<(b:Int))
theorem qek{b:Nat}{p:Pa}(h:(b:Int)<p.all):within b p=false:=by
 unfold within;rw[decide_eq_false (by omega)];rfl
theorem qh7{b:Nat}{p:Pa}{k:Nat}(hk:k<p.zF.length)(h:(b:Int)≤p.zF[k].1):within b p=false:=by
 unfold within;have:(p.zF.all fun c=>decide (c.1<(b:Int)))=false:=by
  rw[List.all_eq_false];exact⟨p.zF[k],List.getElem_mem hk,by simp;omega⟩
 rw[this,Bool.and_false]
theorem qh8{b:Nat}{p:Pa}(h:p.all≤(b:Int))(h2:∀k (hk:k<p.zF.length),p.zF[k].1<(b:Int)):within b p=true:=by
 unfold within;rw[decide_eq_true h,Bool.true_and,List.all_eq_true];intro c hc;obtain⟨k,hk,rfl⟩:=List.getElem_of_mem hc;exact decide_eq_true (h2 k hk)
def qx6 (p:Pa)(b n:Nat)(w:World)(i:Value)(wr:World):Prop :=
 ∃k:Nat,k≤n∧i=.int .i64 (k:Int)∧(∀j (hj:j<p.zF.length),j<k→p.zF[j].1<(b:Int))∧Below w.heap.size w wr
theorem tJ (A:Option Addr)(cp:Nat)(p:Pa)(bk b:Nat)(w:World)(h:iR w A cp p)(hs:p.zF.length≤1000)(hb0:qh w b 3 #[.int .i64 (bk:Int)]) :
    Calls prog 153 #[.agg (jg p A cp),.pointer (some ⟨b,0,none⟩)] w (ai (if within bk p then 0 else 2) w):=by
 obtain⟨W,hW,ha,hb⟩:=vz w (jg p A cp);have hg:=hb0.below hb;have a5:=ha.cell 5;have a6:=ha.cell 6;have fF:=ha.lt;have g0:=hg.cell 0;have jQ:=hg.lt;simp only[jg,QA,QB,QC]at a5 a6 g0;have HB:=QH hb;have HP:=QH (h.zF.below hb);have HG:=QH hg;have HA:=QH ha;obtain⟨R,hR⟩:=QE ((if within bk p then 0 else 2):Int);have HNA:Hid ((bk:Int)<p.all→R=2):=fun h=>by rw[← hR,qek (b:=bk) (p:=p) h];rfl
 have HNK:Hid (∀k (hk:k<p.zF.length),(bk:Int)≤p.zF[k].1→R=2):=fun k hk h=>by rw[← hR,qh7 (b:=bk) (p:=p) (k:=k) hk h];rfl
 have HYS:Hid (p.all≤(bk:Int)→(∀k (hk:k<p.zF.length),p.zF[k].1<(bk:Int))→R=0):=fun h h2=>by rw[← hR,qh8 (b:=bk) (p:=p) h h2];rfl
 rw[hR];obtain⟨n,hn⟩:=QE p.zF.length;have HN:=QH hn;unfold jg at hW HA ⊢;rw[hn]at hW a6 HA hs ⊢;clear ha hb hg hb0 h hR hn;go_enter func153,ntmps153;go_upto_region 1 with fail;try rw[hW]
 clear hW;by_cases h1:(bk:Int)<p.all
 ·obtain rfl:=HNA.out h1;go_wp2_with fail;go_ret;exact⟨rfl,HB.out⟩
 go_wp2_with fail;have HH:Hid (p.all≤(bk:Int)):=by unfold Hid;omega
 clear a5 a6 fF g0 jQ h1 HNA;go_loopw [5,13] (fun _ i wr=>qx6 p bk n W i wr) (fun _ i _=>n-(intOf i).toNat);case atStart=>exact⟨0,Nat.zero_le _,rfl,fun j _ h=>absurd h (by omega),Below.refl _ _⟩
 case round =>
  obtain⟨k,hk,rfl,hd,hB⟩:=hrel;have HD:=QH hd;have HBr:=QH hB;have hg:=HG.out.below hB;have g0:=hg.cell 0;have jQ:=hg.lt;simp only[QA,QB,QC]at g0;clear hd hB;by_cases hlt:k<n
  ·have ja:(k:Int)<(n:Int):=by omega
   have nM:k<p.zF.length:=by rw[HN.out];exact hlt
   obtain⟨bb,bo,rfl,hbb,c0,c1,cb⟩:=HP.out k nM;have qs9:=QH (HNK.out k nM);have HDK:Hid (p.zF[k].1<(bk:Int)→∀j (hj:j<p.zF.length),j<k+1→p.zF[j].1<(bk:Int)):=fun h j hj hlt=>by
    by_cases hjk:j=k
    ·subst hjk;exact h
    ·exact HD.out j hj (by omega)
   obtain⟨x,hx⟩:=QE (p.zF[k]);rw[hx]at c0 c1 qs9 HDK;have e0:wr.cell? ⟨bb,bo+k*2,none⟩=some (.int .i64 x.1):=by rw[HBr.out.cell (p:=⟨bb,bo+k*2,none⟩) hbb];exact c0
   have e1:wr.cell? ⟨bb,bo+k*2+1,none⟩=some (.string (str x.2)):=by rw[HBr.out.cell (p:=⟨bb,bo+k*2+1,none⟩) hbb];exact c1
   have lb:bb<wr.heap.size:=Nat.lt_of_lt_of_le hbb HBr.out.size;clear hx c0 c1 cb HD HNK;obtain⟨z,d⟩:=x;dsimp only at e0 e1 qs9 HDK;obtain⟨S,hS⟩:=QE (str d);rw[hS]at e1;clear hS;obtain⟨W1,hW1⟩:=QE (wr.alloc (.cells #[.int .i64 z,.string S] 122));have hb1:Below wr.heap.size wr W1:=by rw[← hW1];exact(Below.refl _ wr).alloc (Nat.le_refl _) _
   have hX:qh W1 wr.heap.size 122 #[.int .i64 z,.string S]:=by rw[← hW1];exact qh.new _ _ _
   have qU:=QH (qc HBr.out hb1);have x0:=hX.cell 0;have fG:=hX.lt;simp only[QA,QB,QC]at x0;have hg1:=hg.below hb1;have j0:=hg1.cell 0;have jl:=hg1.lt;simp only[QA,QB,QC]at j0;clear hb1 hX hg hg1;go_upto_region 6 with fail;try rw[hW1]
   clear hW1 e0 e1 g0 jQ;by_cases h2:(bk:Int)≤z
   ·obtain rfl:=qs9.out h2;go_wp2_with fail;go_ret;exact⟨rfl,qc HB.out qU.out⟩
   ·have HT:=QH (HDK.out (by omega));go_wp2_with fail;go_roundw;case rel=>exact⟨k+1,by omega,by go_num,HT.out,qU.out⟩
    case measure=>simp[intOf];omega
  ·have ja:¬ (k:Int)<(n:Int):=by omega
   obtain rfl:=HYS.out HH.out (fun j hj=>HD.out j hj (by have:=HN.out;omega));go_wp2_with fail;go_ret;exact⟨rfl,qc HB.out HBr.out⟩
def uM (t:vt.Tf)(p:Pa):Int:=if t.base=p.base∧t.target=p.target∧t.all=p.all then t.next else 0
theorem oG (A B:Option Addr)(cp n c:Nat)(p:Pa)(t:vt.Tf)(b:Nat)(w:World)(hb0:qh w b 82 (vt.pg.ub t B n c)) :
    Calls prog 154 #[.agg (jg p A cp),.pointer (some ⟨b,0,none⟩)] w (ai (if p.fr=uM t p then 0 else 10) w):=by
 obtain⟨W,hW,ha,hb⟩:=vz w (jg p A cp);have hg:=hb0.below hb;have a0:=ha.cell 0;have a1:=ha.cell 1;have a2:=ha.cell 2;have a3:=ha.cell 3;have a4:=ha.cell 4;have a5:=ha.cell 5;have fF:=ha.lt;have g0:=hg.cell 0;have g1:=hg.cell 1;have g2:=hg.cell 2;have g3:=hg.cell 3;have g4:=hg.cell 4;have g5:=hg.cell 5;have jQ:=hg.lt;simp only[jg,vt.pg.ub,QA,QB,QC]at a0 a1 a2 a3 a4 a5 g0 g1 g2 g3 g4 g5;have HB:=QH hb;have HY:Hid ((t.base=p.base∧t.target=p.target∧t.all=p.all)→uM t p=t.next):=fun h=>by unfold uM;rw[if_pos h]
 have jK:Hid (¬ (t.base=p.base∧t.target=p.target∧t.all=p.all)→uM t p=0):=fun h=>by unfold uM;rw[if_neg h]
 obtain⟨R,hR⟩:=QE (uM t p);rw[hR]at HY jK ⊢;unfold jg at hW ⊢;clear ha hb hg hb0 hR;have E1:Hid (t.base=p.base→t.base.1=p.base.1∧t.base.2=p.base.2):=fun h=>⟨by rw[h],by rw[h]⟩;have E2:Hid (t.target=p.target→t.target.1=p.target.1∧t.target.2=p.target.2):=fun h=>⟨by rw[h],by rw[h]⟩;have HF1:Hid (p.fr=R→ai (if p.fr=R then 0 else 10) w (.returned (.int .i64 0)) W):=fun h=>by rw[if_pos h];exact⟨rfl,HB.out⟩
 have HF2:Hid (¬ p.fr=R→ai (if p.fr=R then 0 else 10) w (.returned (.int .i64 10)) W):=fun h=>by rw[if_neg h];exact⟨rfl,HB.out⟩
 obtain⟨K,hK⟩:=QE ((if p.fr=R then 0 else 10):Int);rw[hK]at HF1 HF2 ⊢;clear hK;go_enter func154,ntmps154;go_upto_region 1 with fail;try rw[hW]
 clear hW;by_cases h1:t.base=p.base
 case' neg =>
  obtain rfl:=jK.out (fun h=>h1 h.1);have hgn:=vt.pg.fE h1;clear h1 HY jK E1 E2;rcases hgn with hg|⟨hg,hg2⟩;all_goals
   go_upto_region 4 with fail;first|clear hg2|skip
   clear hg;by_cases h9:p.fr=0
   ·have HF:=QH (HF1.out h9);have h9b:(p.fr != 0)=false:=by simpa using h9
    clear h9;go_wp2_with fail;go_ret;exact HF.out
   ·have HF:=QH (HF2.out h9);have h9b:(p.fr != 0)=true:=by simpa using h9
    clear h9;go_wp2_with fail;go_ret;exact HF.out
 obtain⟨e1,e2⟩:=E1.out h1;by_cases h2:t.target=p.target
 case' neg =>
  obtain rfl:=jK.out (fun h=>h2 h.2.1);have hgn:=vt.pg.fE h2;clear h1 h2 HY jK E1 E2;rcases hgn with hg|⟨hg,hg2⟩;all_goals
   go_upto_region 4 with fail;first|clear hg2|skip
   clear hg e1 e2;by_cases h9:p.fr=0
   ·have HF:=QH (HF1.out h9);have h9b:(p.fr != 0)=false:=by simpa using h9
    clear h9;go_wp2_with fail;go_ret;exact HF.out
   ·have HF:=QH (HF2.out h9);have h9b:(p.fr != 0)=true:=by simpa using h9
    clear h9;go_wp2_with fail;go_ret;exact HF.out
 obtain⟨e3,e4⟩:=E2.out h2;by_cases h3:t.all=p.all
 case' neg =>
  obtain rfl:=jK.out (fun h=>h3 h.2.2);clear h1 h2 HY jK E1 E2;go_upto_region 4 with fail;clear h3 e1 e2 e3 e4;by_cases h9:p.fr=0
  ·have HF:=QH (HF1.out h9);have h9b:(p.fr != 0)=false:=by simpa using h9
   clear h9;go_wp2_with fail;go_ret;exact HF.out
  ·have HF:=QH (HF2.out h9);have h9b:(p.fr != 0)=true:=by simpa using h9
   clear h9;go_wp2_with fail;go_ret;exact HF.out
 obtain rfl:=HY.out ⟨h1,h2,h3⟩;clear h1 h2 HY jK E1 E2;go_upto_region 4 with fail;clear h3 e1 e2 e3 e4;by_cases h9:p.fr=t.next
 ·have HF:=QH (HF1.out h9);have h9b:(p.fr != t.next)=false:=by simpa using h9
  clear h9;go_wp2_with fail;go_ret;exact HF.out
 ·have HF:=QH (HF2.out h9);have h9b:(p.fr != t.next)=true:=by simpa using h9
  clear h9;go_wp2_with fail;go_ret;exact HF.out
def j9 (K:Nat→Int):Nat→Int
 | 0=>0
 | n+1=>if j9 K n≠0 then j9 K n else K n
theorem jE {K:Nat→Int}{k:Nat}(h0:j9 K k=0)(hk:K k≠0):∀n,k<n→j9 K n=K k
 | 0,h=>absurd h (by omega)
 | n+1,h=>by
  unfold j9;by_cases hn:k=n
  ·subst hn;rw[if_neg (by rw[h0];simp)]
  ·rw[jE h0 hk n (by omega),if_pos hk]
theorem vX {K:Nat→Int}{k:Nat}(h0:j9 K k=0)(hk:K k=0):j9 K (k+1)=0:=by
 unfold j9;rw[if_neg (by rw[h0];simp)];exact hk
def qx7 (K:Nat→Int)(w:World)(i:Value)(wr:World):Prop:=∃k:Nat,k≤4∧i=.int .i64 (k:Int)∧j9 K k=0∧Below w.heap.size w wr
theorem qh9(A:Option Addr)(cp:Nat)(p:Pa)(w:World)(fs:Nat→FuncId)(kU:Nat→Array Value)(K:Nat→Int)(g:Nat)(hk:qh w g 153 #[.func (.func (fs 0)) #[] (kU 0),.func (.func (fs 1)) #[] (kU 1),.func (.func (fs 2)) #[] (kU 2),.func (.func (fs 3)) #[] (kU 3)])
    (hcf:∀k,k<4→∀(a:Array Value) (W:World),Sem.run prog (callFunc (fs k) a) W=Result.ok (Next.enter (fs k) a) W) (hC:∀k,k<4→∀W,Below w.heap.size w W→Calls prog (fs k) (#[.agg (jg p A cp)]++kU k) W (ai (K k) W)) :
    Calls prog 78 #[.agg (jg p A cp),.slice (some ⟨g,0,none⟩) 4 4] w (ai (j9 K 4) w):=by
 obtain⟨W,hW,ha,hb⟩:=vz w (jg p A cp);have HB:=QH hb;have HA:=QH ha;have HG:=QH (hk.below hb);have HCF:=QH hcf;have HC:=QH hC;clear ha hb hk hcf hC;unfold jg at *;go_enter func78,ntmps78;go_upto_region 1 with fail;try rw[hW]
 clear hW;go_wp2_with fail;go_loopw [10] (fun i wr=>qx7 K W i wr) (fun i _=>4-(intOf i).toNat);case atStart=>exact⟨0,by omega,rfl,rfl,Below.refl _ _⟩
 case round =>
  obtain⟨k,hk4,rfl,hz,hB⟩:=hrel;have HZ:=QH hz;have HBr:=QH hB;have hg:=HG.out.below hB;have jQ:=hg.lt;have ha:=HA.out.below hB;have a0:=ha.cell 0;have a1:=ha.cell 1;have a2:=ha.cell 2;have a3:=ha.cell 3;have a4:=ha.cell 4;have a5:=ha.cell 5;have a6:=ha.cell 6;have fF:=ha.lt;simp only[QA,QB,QC]at a0 a1 a2 a3 a4 a5 a6;by_cases hlt:k<4
  ·have ja:(k:Int)<4:=by omega
   have q0:wr.cell? ⟨g,k,none⟩=some (.func (.func (fs k)) #[] (kU k)):=by
    rw[hg.cell];rcases k with _|_|_|_|k;all_goals (first|omega|rfl)
   have HCK:=QH (HC.out k hlt wr (qc HB.out HBr.out));have hcf:=HCF.out k hlt;have HST:Hid (K k≠0→j9 K 4=K k):=fun h=>jE HZ.out h 4 hlt;have HNX:Hid (K k=0→j9 K (k+1)=0):=fun h=>vX HZ.out h;generalize fs k=f at *;generalize kU k=cs at *;generalize K k=c at *;clear hz hB hg ha;go_wp2_with fail;refine HCK.out.mono ?_;rintro e W2 ⟨rfl,hb2⟩;have qG:=QH (qc HBr.out hb2);clear hb2 a0 a1 a2 a3 a4 a5 a6 fF q0 jQ HCK hcf;by_cases h0:c=0
   ·have HN:=QH (HNX.out h0);have hcb:(c != 0)=false:=by simpa using h0
    clear h0;go_wp2_with fail;go_roundw;case rel=>exact⟨k+1,by omega,by go_num,HN.out,qG.out⟩
    case measure=>simp[intOf];omega
   ·have HN:=QH (HST.out h0);have hcb:(c != 0)=true:=by simpa using h0
    clear h0;go_wp2_with fail;go_ret;rw[HN.out];exact⟨rfl,qc HB.out qG.out⟩
  ·have ja:¬ (k:Int)<4:=by omega
   have qx8:k=4:=by omega
   have HR:Hid (j9 K 4=0):=by have:=HZ.out;rw[qx8]at this;exact this
   clear qx8 hz hB hg ha a0 a1 a2 a3 a4 a5 a6 fF jQ;go_wp2_with fail;go_ret;rw[HR.out];exact⟨rfl,qc HB.out HBr.out⟩
def MkC (k:FuncId)(t:TypeId)(cs:Array Value)(w:World)(e:Ending)(w':World):Prop:=∃b,e=.returned (.func (.func k) #[] #[.pointer (some ⟨b,0,none⟩)])∧qh w' b t cs∧Below w.heap.size w w'
theorem qel(g:Gd)(w:World):Calls prog 80 #[gv g] w (MkC 152 38 (gC g) w):=by
 have HB:=QH ((Below.refl w.heap.size w).alloc (Nat.le_refl _) (.cells (gC g) 38));have HK:=QH (qh.new w 38 (gC g));unfold gv gC at *;go_enter func80,ntmps80;go_wp2_with fail;go_ret;exact⟨_,rfl,HK.out,HB.out⟩
theorem nA (k:Nat)(w:World):Calls prog 82 #[.int .i64 (k:Int)] w (MkC 153 3 #[.int .i64 (k:Int)] w):=by
 have HB:=QH ((Below.refl w.heap.size w).alloc (Nat.le_refl _) (.cells #[.int .i64 (k:Int)] 3));have HK:=QH (qh.new w 3 #[.int .i64 (k:Int)]);go_enter func82,ntmps82;go_wp2_with fail;go_ret;exact⟨_,rfl,HK.out,HB.out⟩
theorem qbN(t:vt.Tf)(A:Option Addr)(n c:Nat)(w:World):Calls prog 83 #[.agg (vt.pg.ub t A n c)] w (MkC 154 82 (vt.pg.ub t A n c) w):=by
 have HB:=QH ((Below.refl w.heap.size w).alloc (Nat.le_refl _) (.cells (vt.pg.ub t A n c) 82));have HK:=QH (qh.new w 82 (vt.pg.ub t A n c));unfold vt.pg.ub at *;go_enter func83,ntmps83;go_wp2_with fail;go_ret;exact⟨_,rfl,HK.out,HB.out⟩
end Go.Proofs.YtdpbdkacngaemaaGreatDoor.rv

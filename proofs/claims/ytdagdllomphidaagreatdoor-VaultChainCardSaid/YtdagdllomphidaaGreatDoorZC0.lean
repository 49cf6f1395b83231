/- Str, ImPure, WiPure, MtNsec, MtPure, MtMath, MgPure, WiShelf, ShBuilder, Info, WiPut, WiGrown, WiRead, WiNum, WiNumG, WiNumR, Ints, Blk, ICells, StillW, Dat, Lists, MtMem, MtEq, WiRefR0, WiRefN, WiRefG, WiRefQ, MtRd, OwnKit, MtSns, MgRd, MgList. -/
import Derived.Below
import Derived.Lib.Hide
import Derived.Lib.Strings
import Derived.RowKit
import Derived.Lib.ItoaNum
import Derived.Shelf.Strconv.Itoa0
import Derived.Test.YtdagdllomphidaaGreatDoorProg
import Derived.Shelf.Strings.Builder1
import Derived.WalkKit
import Derived.WalkSpells
import Derived.WalkLawsBesides
import Derived.BigCall
import Derived.Lib.ConvBytes
import Derived.OpenShut
import Derived.Deep.Slices
import Derived.Deep.SlicePairs
import Derived.Deep.Fields
import Derived.ChangeSlices
import Derived.ChangeSame
import Derived.Maps.AppendAt
import Derived.OwnWalk
import Derived.Deep.Draws
import Derived.StillTailTactics
import Derived.LoopTactic
import Derived.Deep.WholeRow
import Derived.Deep.AppendSrc
import Derived.Carry
import Derived.Laws.StructEq
import Derived.Laws.Cover2
import Derived.KernelRfl
import Derived.Deep.QuietTactic
import Derived.BigQuiet
import Derived.Laws.AppendOwn
import Derived.Tactics
set_option linter.unusedVariables false
set_option linter.unusedSimpArgs false
set_option maxHeartbeats 30000000
set_option maxRecDepth 100000
namespace Go.Proofs.YtdagdllomphidaaGreatDoor
theorem QH {p : Prop} (h : p) : Go.RowKit.Hid p := h
theorem QA {α : Type _} {l : List α} {i : Nat} : l.toArray[i]? = l[i]? := List.getElem?_toArray
theorem QB {α : Type _} {a : α} {l : List α} : (a :: l)[0]? = some a := List.getElem?_cons_zero
theorem QC {α : Type _} {a : α} {l : List α} {i : Nat} : (a :: l)[i + 1]? = l[i]? := List.getElem?_cons_succ
theorem QE {α : Sort _} (a : α) : ∃ x, a = x := ⟨a, rfl⟩
end Go.Proofs.YtdagdllomphidaaGreatDoor
namespace Go.Proofs.YtdagdllomphidaaGreatDoor
open _root_.Go.Proofs.Tryz Go Go.RowKit
def str (l:List UInt8):ByteArray:=⟨l.toArray⟩
def bl (s:ByteArray):List UInt8:=s.data.toList
theorem za (l:List UInt8):bl (str l)=l:=by simp[bl,str]
theorem fJ (s:ByteArray):str (bl s)=s:=by obtain⟨⟨l⟩⟩:=s;rfl
theorem qO (l:List UInt8):(str l).size=l.length:=by simp[str,ByteArray.size]
theorem zk (s:ByteArray):(bl s).length=s.size:=by obtain⟨⟨l⟩⟩:=s;simp[bl,ByteArray.size]
theorem str_inj{l m:List UInt8}(h:str l=str m):l=m:=by
 have:=congrArg bl h
 rwa [za,za]at this
theorem ae (s:ByteArray):s.toList=bl s:=Lib.toList_data s
theorem bn (s:ByteArray)(a b:Nat):bl (s.extract a b)=((bl s).drop a).take (b-a):=Lib.extract_data s a b
theorem qoK(s:ByteArray)(k:Nat):bl (s.extract 0 k)=(bl s).take k:=by rw[bn];simp
theorem qgs(s:ByteArray)(k:Nat):bl (s.extract k s.size)=(bl s).drop k:=by
 rw[bn,List.take_of_length_le];rw[List.length_drop,zk];omega
theorem fK (s:ByteArray)(l:List UInt8):(s.toList == (str l).toList)=decide (bl s=l):=by
 rw[ae,ae,za,Bool.eq_iff_iff];simp
theorem uU (k:Nat)(h:k<256):(UInt8.ofNat k).toNat=k:=by
 simp[UInt8.toNat_ofNat'];omega
theorem addr_add(b o j:Nat):(⟨b,o,none⟩:Addr).add j=⟨b,o+j,none⟩:=by
 unfold Addr.add;split
 ·subst_vars;rfl
 ·rfl
theorem qc {w A B:World}(h:Below w.heap.size w A)(g:Below A.heap.size A B):Below w.heap.size w B:=h.trans (g.mono h.size)
theorem zw {w A:World}(h:Below w.heap.size w A)(o:Obj):Below w.heap.size w (A.alloc o):=h.alloc h.size o
def tV (w:World)(e:Ending)(w':World):Prop:=e=.returned (.bool true)∧Below w.heap.size w w'
def qgt (r:ByteArray)(w:World)(e:Ending)(w':World):Prop:=e=.returned (.string r)∧Below w.heap.size w w'
end Go.Proofs.YtdagdllomphidaaGreatDoor
namespace Go.Proofs.YtdagdllomphidaaGreatDoor.im
open _root_.Go.Proofs.Tryz Go Go.RowKit
def pl (l:List Int)(i:Nat):Int:=l.getD i 0
theorem cE {l:List Int}{i:Nat}(h:i<l.length):pl l i=l[i]:=by simp[pl,List.getD,h]
theorem fL {l:List Int}{i:Nat}(h:l.length≤i):pl l i=0:=by simp[pl,List.getD,h]
def gA (n z:Int):Bool:=decide (z≠0)&&(decide (z<193) || decide (n≤z))
def gX (l:List Int)(i k:Nat):Bool:=(List.range k).any fun j=>decide (pl l i=pl l j)
def yv (l:List Int)(i:Nat):Bool:=(List.range i).any fun j=>decide (pl l j≠0)&&gX l j j
def zF (l:List Int)(blocks n:Int):Int :=
 if blocks<1∨8<blocks∨(l.length:Int)≠blocks then 2 else if l.any (gA n)then 2 else if yv l l.length then 16 else 0
def qb9 (l:List Int)(k s:Int):List Int × Int:=if k<0∨(l.length:Int)≤k∨s<0 then([],2)else(l.set k.toNat s,0)
theorem bp (l:List Int)(i:Nat):yv l (i+1)=(yv l i || (decide (pl l i≠0)&&gX l i i)):=by
 unfold yv;rw[List.range_succ,List.any_append,List.any_cons,List.any_nil,Bool.or_false]
theorem qed{l:List Int}{i j m:Nat}(hi:i<m)(hj:j<i)(h0:pl l i≠0)(h:pl l i=pl l j):yv l m=true:=by
 unfold yv gX;rw[List.any_eq_true];refine⟨i,List.mem_range.2 hi,?_⟩;rw[decide_eq_true h0,Bool.true_and,List.any_eq_true];exact⟨j,List.mem_range.2 hj,decide_eq_true h⟩
theorem qk3{l:List Int}{k:Nat}(h:k<l.length)(p:Int→Bool):(l.take (k+1)).any p=((l.take k).any p || p l[k]):=by
 rw[List.take_succ_eq_append_getElem h,List.any_append,List.any_cons,List.any_nil,Bool.or_false]
theorem qsZ{l:List Int}{k:Nat}(h:k<l.length){p:Int→Bool}(hp:p l[k]=true):l.any p=true :=
 List.any_eq_true.2 ⟨_,List.getElem_mem h,hp⟩
end Go.Proofs.YtdagdllomphidaaGreatDoor.im
namespace Go.Proofs.YtdagdllomphidaaGreatDoor.wi
open _root_.Go.Proofs.Tryz Go
def xh:Nat→Nat→List UInt8
 | 0,_=>[]
 | f+1,n=>if n=0 then[]else xh f (n/256)++[UInt8.ofNat (n%256)]
def zD (n:Nat):List UInt8:=xh 8 n
def zo (n:Nat):List UInt8:=UInt8.ofNat (zD n).length::zD n
def lf (t:List UInt8):List UInt8:=zo t.length++t
def mj:Nat→List UInt8→Nat
 | a,[]=>a
 | a,b::l=>mj (a*256+b.toNat) l
def val (l:List UInt8):Nat:=mj 0 l
theorem bq (f:Nat):xh f 0=[]:=by cases f <;> simp[xh]
theorem yw:∀(f n:Nat),n<256 ^ f→xh (f+1) n=xh f n
 | 0,n,h=>by
  have:n=0:=by simpa using h
  subst this;simp[xh]
 | f+1,n,h=>by
  by_cases h0:n=0
  ·subst h0;simp[xh]
  ·have h1:n/256<256 ^ f:=by
      rw[Nat.pow_succ]at h;exact(Nat.div_lt_iff_lt_mul (by omega)).2 h
   rw[xh,if_neg h0,yw f _ h1,xh,if_neg h0]
theorem qhv:zD 0=[]:=rfl
theorem qk4(n:Nat)(h0:n≠0)(h:n<18446744073709551616):zD n=zD (n/256)++[UInt8.ofNat (n%256)]:=by
 have h1:n<256 ^ 8:=by simpa using h
 have e:zD n=xh 9 n:=(yw 8 n h1).symm;rw[e,xh,if_neg h0];rfl
theorem fM:∀(f n:Nat),(xh f n).length≤f
 | 0,_=>by simp[xh]
 | f+1,n=>by
  unfold xh;split
  ·simp
  ·have:=fM f (n/256);simp;omega
theorem jC (n:Nat):(zD n).length≤8:=fM 8 n
theorem lg:Lib.bitLen 0=0:=by simp[Lib.bitLen,Lib.bitLenAux_zero]
theorem qee(n:Nat)(h0:n≠0)(h:n<18446744073709551616):1≤Lib.bitLen n :=
 (Lib.bitLenAux_bounds 64 n (by simpa using h) h0).1
theorem rY:∀(f n:Nat),f≤8→n<256 ^ f→(Lib.bitLen n+7)/8=(xh f n).length
 | 0,n,_,h=>by
  have:n=0:=by simpa using h
  subst this;simp[xh,lg]
 | f+1,n,hf,h=>by
  by_cases h0:n=0
  ·subst h0;simp[xh,lg]
  ·have h1:n/256<256 ^ f:=by
      rw[Nat.pow_succ]at h;exact(Nat.div_lt_iff_lt_mul (by omega)).2 h
   have h64:n<18446744073709551616:=by
    have:256 ^ (f+1)≤256 ^ 8:=Nat.pow_le_pow_right (by omega) hf;have e:(256:Nat) ^ 8=18446744073709551616:=by decide
    omega
   have ih:=rY f (n/256) (by omega) h1;rw[xh,if_neg h0];simp only[List.length_append,List.length_cons,List.length_nil];by_cases hb:256≤n
   ·rw[Lib.bitLen_shift8 n hb h64];omega
   ·have e:n/256=0:=by omega
    rw[e,bq];have a:=qee n h0 h64;have b:=Lib.bitLen_le n 8 (by omega) (by omega);simp;omega
theorem count_eq(n:Nat)(h:n<18446744073709551616):(Lib.bitLen n+7)/8=(zD n).length :=
 rY 8 n (by omega) (by simpa using h)
theorem lh:∀(a:Nat) (l m:List UInt8),mj a (l++m)=mj (mj a l) m
 | _,[],_=>rfl
 | a,b::l,m=>by simp[mj,lh]
theorem na (l:List UInt8)(b:UInt8):val (l++[b])=val l*256+b.toNat:=by
 simp[val,lh,mj]
theorem fN:∀(f n:Nat),n<256 ^ f→val (xh f n)=n
 | 0,n,h=>by
  have:n=0:=by simpa using h
  subst this;rfl
 | f+1,n,h=>by
  by_cases h0:n=0
  ·subst h0;simp[xh,val,mj]
  ·have h1:n/256<256 ^ f:=by
      rw[Nat.pow_succ]at h;exact(Nat.div_lt_iff_lt_mul (by omega)).2 h
   rw[xh,if_neg h0,na,fN f _ h1];have:(UInt8.ofNat (n%256)).toNat=n%256:=by
    simp[UInt8.toNat_ofNat']
   rw[this];omega
theorem qk5(n:Nat)(h:n<18446744073709551616):val (zD n)=n:=fN 8 n (by simpa using h)
theorem qk6(l:List UInt8):val l<256 ^ l.length:=by
 have key:∀(l:List UInt8) (a:Nat),mj a l<(a+1)*256 ^ l.length:=by
  intro l
  induction l with
  | nil=>intro a;simp[mj]
  | cons b l ih =>
   intro a;have h:=ih (a*256+b.toNat);have hb:b.toNat<256:=b.toNat_lt;simp only[mj,List.length_cons,Nat.pow_succ]
   calc mj (a*256+b.toNat) l<(a*256+b.toNat+1)*256 ^ l.length:=h
    _≤((a+1)*256)*256 ^ l.length:=Nat.mul_le_mul_right _ (by omega)
    _=(a+1)*(256 ^ l.length*256):=by rw[Nat.mul_assoc,Nat.mul_comm 256]
 have:=key l 0;simpa[val]using this
theorem qk7(l:List UInt8)(h:l.length≤8):val l<18446744073709551616:=by
 have a:=qk6 l;have b:256 ^ l.length≤256 ^ 8:=Nat.pow_le_pow_right (by omega) h;have e:(256:Nat) ^ 8=18446744073709551616:=by decide
 omega
theorem qhw:∀(l:List UInt8) (f:Nat),l.length≤f→(∀b m,l=b::m→b≠0)→xh f (val l)=l:=by
 intro l;have key:∀(k:Nat) (l:List UInt8),l.length=k→∀f,l.length≤f→(∀b m,l=b::m→b≠0)→xh f (val l)=l∧(l≠[]→val l≠0):=by
  intro k
  induction k with
  | zero =>
   intro l hl f _ _;have:l=[]:=List.length_eq_zero_iff.1 hl;subst this;exact⟨bq f,fun h=>absurd rfl h⟩
  | succ k ih =>
   intro l hl f hf hz;have hne:l≠[]:=by intro h;subst h;simp at hl
   have hs:l=l.dropLast++[l.getLast hne]:=(List.dropLast_concat_getLast hne).symm;generalize l.dropLast=p at hs;generalize l.getLast hne=b at hs;subst hs;have hp:p.length=k:=by simpa using hl
   obtain⟨f,rfl⟩:∃g,f=g+1:=⟨f-1,by simp at hf;omega⟩;have ihp:=ih p hp f (by simp at hf;omega) (fun c m h=>hz c (m++[b]) (by rw[h];rfl));have hb:b.toNat<256:=b.toNat_lt;rw[na];have hnz:val p*256+b.toNat≠0:=by
    by_cases hpe:p=[]
    ·subst hpe;have hb0:=hz b [] rfl;have:b.toNat≠0:=fun h=>hb0 (by apply UInt8.toNat_inj.1;simpa using h);omega
    ·have:=ihp.2 hpe;omega
   refine⟨?_,fun _=>hnz⟩;rw[xh,if_neg hnz,show(val p*256+b.toNat)/256=val p by omega,ihp.1,show(val p*256+b.toNat)%256=b.toNat by omega];simp
 intro f hf hz;exact(key l.length l rfl f hf hz).1
theorem qk8(l:List UInt8)(hl:l.length≤8)(hz:∀b m,l=b::m→b≠0):zD (val l)=l:=qhw l 8 hl hz
theorem qhx(n:Nat)(h:n<18446744073709551616)(b:UInt8)(m:List UInt8)(e:zD n=b::m):b≠0:=by
 have key:∀(f n:Nat),n<256 ^ f→∀b m,xh f n=b::m→b≠0:=by
  intro f
  induction f with
  | zero=>intro n _ b m e;simp[xh]at e
  | succ f ih =>
   intro n hn b m e;by_cases h0:n=0
   ·subst h0;simp[xh]at e
   ·have h1:n/256<256 ^ f:=by
       rw[Nat.pow_succ]at hn;exact(Nat.div_lt_iff_lt_mul (by omega)).2 hn
    rw[xh,if_neg h0]at e;by_cases hq:n/256=0
    ·rw[hq,bq]at e;simp at e;intro hb;have:(UInt8.ofNat (n%256)).toNat=0:=by rw[e.1,hb];rfl
     simp[UInt8.toNat_ofNat']at this;omega
    ·cases hd:xh f (n/256)with
     | nil =>
      have v:=fN f _ h1;rw[hd]at v;exact absurd v.symm hq
     | cons c r =>
      rw[hd]at e;simp at e;rw[← e.1];exact ih _ h1 c r hd
 exact key 8 n (by simpa using h) b m e
def rdNum (l:List UInt8):Option (Nat × List UInt8) :=
 match l with
 | []=>none
 | k::r =>
  if 8<k.toNat then none
  else if r.length<k.toNat then none
  else if (r.take k.toNat).head? = some 0 then none
  else some (val (r.take k.toNat),r.drop k.toNat)
def je (l:List UInt8):Option (List UInt8 × List UInt8) :=
 match rdNum l with
 | none=>none
 | some (n,r)=>if r.length<n then none else some (r.take n,r.drop n)
theorem kX (n:Nat)(h:n<18446744073709551616)(r:List UInt8):rdNum (zo n++r)=some (n,r):=by
 have hl:=jC n;have e:(UInt8.ofNat (zD n).length).toNat=(zD n).length:=uU _ (by omega);have ht:(zD n++r).take (zD n).length=zD n:=by simp
 have hh:¬ (zD n).head? = some 0:=by
  intro hc;cases hd:zD n with
  | nil=>rw[hd]at hc;simp at hc
  | cons b m =>
   rw[hd]at hc;simp at hc;exact qhx n h b m hd hc
 show rdNum (UInt8.ofNat (zD n).length::(zD n++r))=_;unfold rdNum;simp only[e];rw[if_neg (by omega),if_neg (by simp),ht,if_neg hh,qk5 n h];simp
theorem qef(t:List UInt8)(h:t.length<18446744073709551616)(r:List UInt8):je (lf t++r)=some (t,r):=by
 unfold je lf;rw[List.append_assoc,kX _ h];simp
theorem gY (l:List UInt8)(n:Nat)(r:List UInt8)(h:rdNum l=some (n,r)):l=zo n++r∧n<18446744073709551616:=by
 cases l with
 | nil=>simp[rdNum]at h
 | cons k q =>
  unfold rdNum at h;by_cases h1:8<k.toNat
  ·simp[h1]at h
  by_cases h2:q.length<k.toNat
  ·simp[h1,h2]at h
  by_cases h3:(q.take k.toNat).head? = some 0
  ·simp[h1,h2,h3]at h
  ·simp only[h1,h2,h3,if_false,Option.some.injEq,Prod.mk.injEq]at h;obtain⟨rfl,rfl⟩:=h;have hl:(q.take k.toNat).length=k.toNat:=by simp;omega
   have hz:∀b m,q.take k.toNat=b::m→b≠0:=by
    intro b m e hb;apply h3;rw[e,hb];rfl
   have hd:=qk8 (q.take k.toNat) (by omega) hz;refine⟨?_,qk7 _ (by omega)⟩;unfold zo;rw[hd,hl];have ek:UInt8.ofNat k.toNat=k:=by simp
   rw[ek];simp
def flat (ps:List ByteArray):List UInt8:=(ps.map bl).flatten
theorem qhy(ps:List ByteArray)(k:Nat)(h:k<ps.length):flat (ps.take (k+1))=flat (ps.take k)++bl ps[k]:=by
 unfold flat;rw[List.take_succ_eq_append_getElem h,List.map_append,List.flatten_append];simp
theorem rC (ps:List ByteArray)(k:Nat):(flat (ps.take k)).length≤(flat ps).length:=by
 have:flat ps=flat (ps.take k)++flat (ps.drop k):=by
  unfold flat;rw[← List.flatten_append,← List.map_append,List.take_append_drop]
 rw[this];simp
end Go.Proofs.YtdagdllomphidaaGreatDoor.wi
namespace Go.Proofs.YtdagdllomphidaaGreatDoor.mt
def nsec (n:Nat):Nat:=(n+37)/32
end Go.Proofs.YtdagdllomphidaaGreatDoor.mt
namespace Go.Proofs.YtdagdllomphidaaGreatDoor.mt
open _root_.Go.Proofs.Tryz Go Go.RowKit im wi
abbrev Gd:=Nat × Nat
def zZ (g:Gd):Prop:=g.1<18446744073709551616∧g.2<18446744073709551616
structure Sp where
 g:Gd
 ql:List Int
 hid:Bool
 deriving DecidableEq
structure Tk where
 base:Gd
 target:Gd
 next:Int
 all:Int
 ql:List Int
 deriving DecidableEq
structure Mt where
 live:List Int
 qa:List Sp
 tok:Tk
 deriving DecidableEq
def zI:Tk:=⟨(0,0),(0,0),0,0,[]⟩
def mt0:Mt:=⟨[],[],zI⟩
def above (a b:Gd):Bool:=decide (b.1<a.1) || (decide (a.1=b.1)&&decide (b.2<a.2))
def xR (b n:Int):Gd→List Sp→Int × Gd
 | last,[]=>(0,last)
 | last,s::r=>if above s.g last=true then(if zF s.ql b n=0 then xR b n s.g r else(zF s.ql b n,s.g))else(2,last)
def tW (t:Tk):Bool:=decide (t.base=(0,0))&&decide (t.next=0)&&decide (t.all=0)&&decide (t.ql=[])
def gZ (t:Tk)(last:Gd)(b:Int):Bool:=!decide (t.base=last) || !above t.target last || decide (t.next<1) || decide (t.all≤t.next) || decide (b<t.all)
def ub (b n:Int)(last:Gd)(t:Tk):Int :=
 if t.target=(0,0)then(if tW t=true then 0 else 2)else if gZ t last b=true then 2 else zF t.ql b n
def xi (m:Mt)(b n:Int):Int :=
 if zF m.live b n≠0 then zF m.live b n
 else if 20<m.qa.length then 3
 else if (xR b n (0,0) m.qa).1≠0 then(xR b n (0,0) m.qa).1
 else ub b n (xR b n (0,0) m.qa).2 m.tok
def ye (z:Int):List UInt8:=zo z.toNat
def zh (l:List Int):List UInt8:=l.flatMap ye
def kj (g:Gd):List UInt8:=zo g.1++zo g.2
def spB (s:Sp):List UInt8:=kj s.g++(zo (if s.hid then 1 else 0)++zh s.ql)
def yQ (l:List Sp):List UInt8:=l.flatMap spB
def tkB (t:Tk):List UInt8:=if t.target=(0,0)then zo 0 else zo 1++(kj t.base++(kj t.target++(ye t.next++(ye t.all++zh t.ql))))
def zy (m:Mt):List UInt8:=zo m.live.length++(zh m.live++(zo m.qa.length++(yQ m.qa++tkB m.tok)))
def gB (m:Mt):List UInt8 × Int :=
 if xi m m.live.length 1024≠0 then([],xi m m.live.length 1024)else if 48<nsec (zy m).length then([],3)else(zy m,0)
abbrev St:=Option (List UInt8)
def yj (s:St):Nat × St:=match s with
 | none=>(0,none)
 | some l=>match rdNum l with
  | none=>(0,none)
  | some (n,r)=>(n,some r)
def ud (s:St):Nat × St:=(min (yj s).1 1048576,(yj s).2)
def lj:Nat→St→List Int × St
 | 0,s=>([],s)
 | n+1,s=>(((ud s).1:Int)::(lj n (ud s).2).1,(lj n (ud s).2).2)
def vq (s:St):Gd × St:=(((yj s).1,(yj (yj s).2).1),(yj (yj s).2).2)
def spS (b:Nat)(s:St):Sp × St :=
 let g:=vq s;let h:=ud g.2;let i:=lj b h.2
 (⟨g.1,i.1,decide (h.1=1)⟩,i.2)
def tX (b:Nat):Nat→St→List Sp × St
 | 0,s=>([],s)
 | n+1,s=>((spS b s).1::(tX b n (spS b s).2).1,(tX b n (spS b s).2).2)
def tkS (b:Nat)(s:St):Tk × St :=
 let f:=ud s
 if f.1=1 then
  let x:=vq f.2;let y:=vq x.2;let n:=ud y.2;let a:=ud n.2;let i:=lj b a.2
  (⟨x.1,y.1,n.1,a.1,i.1⟩,i.2)
 else(zI,f.2)
def mS (s:St):Mt × St :=
 let k:=ud s;let b:=min k.1 100;let l:=lj b k.2;let c:=ud l.2;let ss:=tX b (min c.1 100) c.2;let t:=tkS b ss.2
 (⟨l.1,ss.1,t.1⟩,t.2)
def nb (s:List UInt8):Mt × Int:=if gB (mS (some s)).1=(s,0)then((mS (some s)).1,0)else(mt0,4)
theorem ue (n:Nat)(h:n<18446744073709551616)(r:List UInt8):yj (some (zo n++r))=(n,some r):=by
 unfold yj;simp only[kX n h]
theorem yx (n:Nat)(h:n≤1048576)(r:List UInt8):ud (some (zo n++r))=(n,some r):=by
 unfold ud;rw[ue n (by omega)];simp only[Nat.min_eq_left h]
def yl (l:List Int):Prop:=∀z∈l,0≤z∧z≤1048576
theorem af:∀(l:List Int) (_:yl l) (r:List UInt8),lj l.length (some (zh l++r))=(l,some r)
 | [],_,r=>rfl
 | z::l,h,r=>by
  have hz:=h z (by simp);have e:zh (z::l)++r=zo z.toNat++(zh l++r):=by simp[zh,ye]
  show lj (l.length+1) (some (zh (z::l)++r))=_;rw[e];unfold lj;rw[yx _ (by omega)];simp only;rw[af l (fun x hx=>h x (by simp[hx])) r];simp only[Int.toNat_of_nonneg hz.1]
theorem ag (g:Gd)(h:zZ g)(r:List UInt8):vq (some (kj g++r))=(g,some r):=by
 unfold vq kj;rw[List.append_assoc,ue _ h.1];simp only;rw[ue _ h.2]
def qtb (b:Nat)(s:Sp):Prop:=zZ s.g∧s.ql.length=b∧yl s.ql
theorem qoL(b:Nat)(s:Sp)(h:qtb b s)(r:List UInt8):spS b (some (spB s++r))=(s,some r):=by
 obtain⟨h1,h2,h3⟩:=h;unfold spS spB;rw[List.append_assoc,ag _ h1];simp only;rw[List.append_assoc,yx _ (by split <;> omega)];simp only;rw[← h2,af _ h3];cases s with|mk g ql hid=>cases hid <;> rfl
theorem qbA(b:Nat):∀(l:List Sp) (_:∀s∈l,qtb b s) (r:List UInt8),tX b l.length (some (yQ l++r))=(l,some r)
 | [],_,r=>rfl
 | s::l,h,r=>by
  have e:yQ (s::l)++r=spB s++(yQ l++r):=by simp[yQ]
  show tX b (l.length+1) (some (yQ (s::l)++r))=_;rw[e];unfold tX;rw[qoL b s (h s (by simp))];simp only;rw[qbA b l (fun x hx=>h x (by simp[hx])) r]
def cG (b:Nat)(t:Tk):Prop:=if t.target=(0,0)then t=zI else zZ t.base∧zZ t.target∧(0≤t.next∧t.next≤1048576)∧(0≤t.all∧t.all≤1048576)∧t.ql.length=b∧yl t.ql
theorem qoM(b:Nat)(t:Tk)(h:cG b t)(r:List UInt8):tkS b (some (tkB t++r))=(t,some r):=by
 unfold cG at h;unfold tkB;by_cases h0:t.target=(0,0)
 ·rw[if_pos h0]at h ⊢;unfold tkS;rw[yx 0 (by omega),h];rfl
 ·rw[if_neg h0]at h ⊢;obtain⟨h1,h2,h3,h4,h5,h6⟩:=h;unfold tkS;simp only[List.append_assoc];rw[yx 1 (by omega)];simp only[if_true];rw[ag _ h1];simp only;rw[ag _ h2];simp only;unfold ye;rw[yx _ (by omega)];simp only;rw[yx _ (by omega)];simp only;rw[← h5,af _ h6];simp only[Int.toNat_of_nonneg h3.1,Int.toNat_of_nonneg h4.1]
structure qwR(m:Mt):Prop where
 b:m.live.length≤100
 live:yl m.live
 few:m.qa.length≤100
 qa:∀s∈m.qa,qtb m.live.length s
 tok:cG m.live.length m.tok
theorem qtc(m:Mt)(h:qwR m)(r:List UInt8):mS (some (zy m++r))=(m,some r):=by
 have hb:=h.b;have hf:=h.few;unfold mS zy;simp only[List.append_assoc];rw[yx _ (by omega)];simp only[Nat.min_eq_left hb];rw[af _ h.live];simp only;rw[yx _ (by omega)];simp only[Nat.min_eq_left hf];rw[qbA _ _ h.qa];simp only;rw[qoM _ _ h.tok]
theorem jS {l:List Int}{b n:Int}(h:zF l b n=0):1≤b∧b≤8∧(l.length:Int)=b∧∀z∈l,z=0∨(193≤z∧z<n):=by
 unfold zF at h;split at h
 ·cases h
 ·rename_i h1;split at h
  ·cases h
  ·rename_i h2;refine⟨by omega,by omega,by omega,fun z hz=>?_⟩;have hb:gA n z=false:=by
    cases hc:gA n z with
    | false=>rfl
    | true=>exact absurd (List.any_eq_true.2 ⟨z,hz,hc⟩) h2
   unfold gA at hb;by_cases hz0:z=0
   ·exact .inl hz0
   ·rw[decide_eq_true hz0,Bool.true_and]at hb;simp only[Bool.or_eq_false_iff,decide_eq_false_iff_not]at hb;exact .inr (by omega)
theorem tY {l:List Int}{b:Int}(h:zF l b 1024=0):yl l:=fun z hz=>by
 rcases(jS h).2.2.2 z hz with h|h <;> omega
structure mB(m:Mt):Prop where
 qa:∀s∈m.qa,zZ s.g
 base:zZ m.tok.base
 target:zZ m.tok.target
theorem nc {b n:Int}:∀ {l:List Sp} {last:Gd},(xR b n last l).1=0→∀s∈l,zF s.ql b n=0
 | [],_,_,s,hs=>absurd hs (by simp)
 | x::r,last,h,s,hs=>by
  unfold xR at h;split at h
  ·split at h
   ·rename_i h2;rcases List.mem_cons.1 hs with rfl|hs
    ·exact h2
    ·exact nc h s hs
   ·rename_i h2;exact absurd h h2
  ·cases h
theorem nd {m:Mt}(hB:mB m)(h:xi m m.live.length 1024=0):qwR m∧1≤m.live.length∧m.live.length≤8∧m.qa.length≤20:=by
 unfold xi at h;split at h
 ·rename_i h1;exact absurd h h1
 rename_i h1;have h1':zF m.live m.live.length 1024=0:=Classical.byContradiction h1;split at h
 ·cases h
 rename_i h2;split at h
 ·rename_i h3;exact absurd h h3
 rename_i h3;have h3':=Classical.byContradiction h3;have hl:=jS h1';refine⟨⟨by omega,tY h1',by omega,fun s hs=>?_,?_⟩,by omega,by omega,by omega⟩
 ·have:=nc h3' s hs;have hi:=jS this;exact⟨hB.qa s hs,by omega,tY this⟩
 ·unfold cG;unfold ub at h;split at h
  ·rename_i h4;rw[if_pos h4];split at h
   ·rename_i h5;unfold tW at h5;simp only[Bool.and_eq_true,decide_eq_true_eq]at h5;obtain⟨⟨⟨e1,e2⟩,e3⟩,e4⟩:=h5;generalize m.tok=t at *;cases t;simp only at e1 e2 e3 e4 h4;subst e1 e2 e3 e4 h4;rfl
   ·cases h
  ·rename_i h4;rw[if_neg h4];split at h
   ·cases h
   ·rename_i h5;unfold gZ at h5;simp only[Bool.or_eq_true,not_or,Bool.not_eq_true,decide_eq_true_eq]at h5;obtain⟨⟨⟨⟨_,_⟩,e3⟩,e4⟩,e5⟩:=h5;have hi:=jS h;exact⟨hB.base,hB.target,by omega,by omega,by omega,tY h⟩
theorem qk9{m:Mt}{s:List UInt8}(h:gB m=(s,0)):xi m m.live.length 1024=0∧s=zy m∧nsec s.length≤48:=by
 unfold gB at h;split at h
 ·rename_i h1;exact absurd (Prod.mk.inj h).2 h1
 ·rename_i h1;split at h
  ·cases (Prod.mk.inj h).2
  ·rename_i h2;have:=(Prod.mk.inj h).1;exact⟨Classical.byContradiction h1,this.symm,by rw[← this];omega⟩
theorem qkA{m:Mt}{s:List UInt8}(hB:mB m)(h:gB m=(s,0))(r:List UInt8):mS (some (s++r))=(m,some r):=by
 obtain⟨h1,rfl,_⟩:=qk9 h;exact qtc m (nd hB h1).1 r
theorem qbB{m:Mt}{s:List UInt8}(hB:mB m)(h:gB m=(s,0)):nb s=(m,0):=by
 have:=qkA hB h [];rw[List.append_nil]at this;unfold nb;rw[this,if_pos h]
theorem qgu{m:Mt}{s:List UInt8}(h:nb s=(m,0)):gB m=(s,0)∧m=(mS (some s)).1:=by
 unfold nb at h;split at h
 ·rename_i h1;have:=(Prod.mk.inj h).1;rw[this]at h1;exact⟨h1,this.symm⟩
 ·cases (Prod.mk.inj h).2
theorem qoN(s:List UInt8):(∃m,nb s=(m,0))∨nb s=(mt0,4):=by
 unfold nb;split
 ·exact .inl ⟨_,rfl⟩
 ·exact .inr rfl
theorem tZ (s:St):(yj s).1<18446744073709551616:=by
 unfold yj;split
 ·decide
 ·split
  ·decide
  ·rename_i l n r h;exact(gY _ _ _ h).2
theorem rZ (s:St):zZ (vq s).1:=⟨tZ _,tZ _⟩
theorem qkB(b:Nat):∀(n:Nat) (s:St),∀x∈(tX b n s).1,zZ x.g
 | 0,_,x,hx=>absurd hx (by simp[tX])
 | n+1,s,x,hx=>by
  unfold tX at hx;simp only[List.mem_cons]at hx;rcases hx with rfl|hx
  ·exact rZ _
  ·exact qkB b n _ x hx
theorem ng:zZ (0,0):=⟨by decide,by decide⟩
theorem qr6(b:Nat)(s:St):zZ (tkS b s).1.base∧zZ (tkS b s).1.target:=by
 unfold tkS;dsimp only;split
 ·exact⟨rZ _,rZ _⟩
 ·exact⟨ng,ng⟩
theorem q2Q(s:St):mB (mS s).1:=⟨fun x hx=>qkB _ _ _ x hx,(qr6 _ _).1,(qr6 _ _).2⟩
theorem qwS{m:Mt}{s:List UInt8}(h:nb s=(m,0)):mB m:=by
 rw[(qgu h).2];exact q2Q _
end Go.Proofs.YtdagdllomphidaaGreatDoor.mt
namespace Go.Proofs.YtdagdllomphidaaGreatDoor.mt.pg
open _root_.Go.Proofs.Tryz Go Go.RowKit im wi mt
def kF (k:Nat)(s:St):Nat × St:=(min (yj s).1 (k+1),(yj s).2)
def gC:Nat→St→List Int × St
 | 0,s=>([],s)
 | n+1,s=>(((kF 1024 s).1:Int)::(gC n (kF 1024 s).2).1,(gC n (kF 1024 s).2).2)
def nh (b:Nat)(s:St):Sp × St:=(⟨(vq s).1,(gC b (yj (vq s).2).2).1,decide ((yj (vq s).2).1=1)⟩,(gC b (yj (vq s).2).2).2)
def uf (b:Nat):Nat→St→List Sp × St
 | 0,s=>([],s)
 | n+1,s=>((nh b s).1::(uf b n (nh b s).2).1,(uf b n (nh b s).2).2)
def rD (b:Nat)(s:St):Tk × St :=
 (⟨(vq s).1,(vq (vq s).2).1,(kF 8 (vq (vq s).2).2).1,(kF 8 (kF 8 (vq (vq s).2).2).2).1,(gC b (kF 8 (kF 8 (vq (vq s).2).2).2).2).1⟩,(gC b (kF 8 (kF 8 (vq (vq s).2).2).2).2).2)
def ll (s:St):List Int × St:=gC (kF 8 s).1 (kF 8 s).2
def qeg (s:St):List Sp × St:=uf (kF 8 s).1 (kF 20 (ll s).2).1 (kF 20 (ll s).2).2
def mP (s:St):Mt:=⟨(ll s).1,(qeg s).1,if (yj (qeg s).2).1=1 then(rD (kF 8 s).1 (yj (qeg s).2).2).1 else zI⟩
theorem fO (k:Nat)(s:St):(kF k s).1≤k+1:=by unfold kF;dsimp only;omega
theorem kP:∀(n:Nat) (s:St),(gC n s).1.length=n
 | 0,_=>rfl
 | n+1,s=>by simp[gC,kP n]
theorem qaa:∀(n:Nat) (s:St),yl (gC n s).1
 | 0,_=>fun z hz=>absurd hz (by simp[gC])
 | n+1,s=>fun z hz=>by
  have h:=fO 1024 s;simp only[gC,List.mem_cons]at hz;rcases hz with rfl|hz
  ·omega
  ·exact qaa n _ z hz
theorem qbC:∀(n:Nat) (s:St),gC (n+1) s=((gC n s).1++[((kF 1024 (gC n s).2).1:Int)],(kF 1024 (gC n s).2).2)
 | 0,s=>rfl
 | n+1,s=>by
  have ih:=qbC n (kF 1024 s).2;show((((kF 1024 s).1:Int)::(gC (n+1) (kF 1024 s).2).1,(gC (n+1) (kF 1024 s).2).2):List Int × St)=_;rw[ih];rfl
theorem sf (b:Nat):∀(n:Nat) (s:St),uf b (n+1) s=((uf b n s).1++[(nh b (uf b n s).2).1],(nh b (uf b n s).2).2)
 | 0,s=>rfl
 | n+1,s=>by
  have ih:=sf b n (nh b s).2;show(((nh b s).1::(uf b (n+1) (nh b s).2).1,(uf b (n+1) (nh b s).2).2):List Sp × St)=_;rw[ih];rfl
theorem qkC(b:Nat)(s:St):yl (nh b s).1.ql∧(nh b s).1.ql.length=b∧zZ (nh b s).1.g:=⟨qaa _ _,kP _ _,rZ _⟩
theorem qab(b:Nat):∀(n:Nat) (s:St),∀x∈(uf b n s).1,yl x.ql∧x.ql.length=b∧zZ x.g
 | 0,_,x,hx=>absurd hx (by simp[uf])
 | n+1,s,x,hx=>by
  unfold uf at hx;simp only[List.mem_cons]at hx;rcases hx with rfl|hx
  ·exact qkC b s
  ·exact qab b n _ x hx
theorem cH (k n:Nat)(h:n≤k)(hk:k≤2000)(r:List UInt8):kF k (some (zo n++r))=(n,some r):=by
 unfold kF;rw[ue n (by omega)];simp only[Nat.min_eq_left (show n≤k+1 by omega)]
def tight (l:List Int):Prop:=∀z∈l,0≤z∧z≤1024
theorem mI:∀(l:List Int) (_:tight l) (r:List UInt8),gC l.length (some (zh l++r))=(l,some r)
 | [],_,r=>rfl
 | z::l,h,r=>by
  have hz:=h z (by simp);have e:zh (z::l)++r=zo z.toNat++(zh l++r):=by simp[zh,ye]
  show gC (l.length+1) (some (zh (z::l)++r))=_;rw[e];unfold gC;rw[cH 1024 _ (by omega) (by omega)];simp only;rw[mI l (fun x hx=>h x (by simp[hx])) r];simp only[Int.toNat_of_nonneg hz.1]
theorem qoO(b:Nat)(s:Sp)(h1:zZ s.g)(h2:s.ql.length=b)(h3:tight s.ql)(r:List UInt8):nh b (some (spB s++r))=(s,some r):=by
 unfold nh spB;rw[List.append_assoc,ag _ h1];simp only;rw[List.append_assoc,ue _ (by split <;> omega)];simp only;rw[← h2,mI _ h3];cases s with|mk g ql hid=>cases hid <;> rfl
theorem qbD(b:Nat):∀(l:List Sp) (_:∀s∈l,zZ s.g∧s.ql.length=b∧tight s.ql) (r:List UInt8),uf b l.length (some (yQ l++r))=(l,some r)
 | [],_,r=>rfl
 | s::l,h,r=>by
  have e:yQ (s::l)++r=spB s++(yQ l++r):=by simp[yQ]
  have hs:=h s (by simp);show uf b (l.length+1) (some (yQ (s::l)++r))=_;rw[e];unfold uf;rw[qoO b s hs.1 hs.2.1 hs.2.2];simp only;rw[qbD b l (fun x hx=>h x (by simp[hx])) r]
structure qr7(m:Mt):Prop where
 b:m.live.length≤8
 live:tight m.live
 few:m.qa.length≤20
 qa:∀s∈m.qa,zZ s.g∧s.ql.length=m.live.length∧tight s.ql
 tok:if m.tok.target=(0,0)then m.tok=zI else zZ m.tok.base∧zZ m.tok.target∧(0≤m.tok.next∧m.tok.next≤8)∧(0≤m.tok.all∧m.tok.all≤8)∧m.tok.ql.length=m.live.length∧tight m.tok.ql
theorem qoP(b:Nat)(t:Tk)(h:zZ t.base∧zZ t.target∧(0≤t.next∧t.next≤8)∧(0≤t.all∧t.all≤8)∧t.ql.length=b∧tight t.ql)(r:List UInt8) :
    rD b (some ((kj t.base++(kj t.target++(ye t.next++(ye t.all++zh t.ql))))++r))=(t,some r):=by
 obtain⟨h1,h2,h3,h4,h5,h6⟩:=h;unfold rD;simp only[List.append_assoc];rw[ag _ h1];simp only;rw[ag _ h2];simp only;unfold ye;rw[cH 8 _ (by omega) (by omega)];simp only;rw[cH 8 _ (by omega) (by omega)];simp only;rw[← h5,mI _ h6];simp only[Int.toNat_of_nonneg h3.1,Int.toNat_of_nonneg h4.1]
theorem qtd(m:Mt)(h:qr7 m):mP (some (zy m))=m:=by
 have h1:kF 8 (some (zy m))=(m.live.length,some (zh m.live++(zo m.qa.length++(yQ m.qa++tkB m.tok)))):=by
  unfold zy;exact cH 8 _ h.b (by omega) _
 have h2:ll (some (zy m))=(m.live,some (zo m.qa.length++(yQ m.qa++tkB m.tok))):=by
  unfold ll;rw[h1];exact mI _ h.live _
 have h3:qeg (some (zy m))=(m.qa,some (tkB m.tok)):=by
  unfold qeg;rw[h2,h1,cH 20 _ h.few (by omega)];exact qbD _ _ h.qa _
 unfold mP;rw[h3,h2,h1];dsimp only;have ht:=h.tok;unfold tkB;by_cases h0:m.tok.target=(0,0)
 ·rw[if_pos h0]at ht;rw[if_pos h0];have:=ue 0 (by omega) [];rw[List.append_nil]at this;rw[this,if_neg (by decide),← ht]
 ·rw[if_neg h0]at ht;rw[if_neg h0,ue 1 (by omega)];simp only[if_true];have:=qoP m.live.length m.tok ht [];rw[List.append_nil]at this;rw[this]
theorem qkD{m:Mt}(hB:mB m)(h:xi m m.live.length 1024=0):qr7 m:=by
 obtain⟨jL,hl1,hl8,q2R⟩:=nd hB h;unfold xi at h;split at h
 ·rename_i h1;exact absurd h h1
 rename_i h1;have h1':zF m.live m.live.length 1024=0:=Classical.byContradiction h1;split at h
 ·cases h
 split at h
 ·rename_i h3;exact absurd h h3
 rename_i h3;have h3':=Classical.byContradiction h3;have tg:∀ {l:List Int} {b:Int},zF l b 1024=0→tight l:=fun h z hz=>by
  rcases(jS h).2.2.2 z hz with h|h <;> omega
 refine⟨hl8,tg h1',q2R,fun s hs=>?_,?_⟩
 ·have:=nc h3' s hs;have hi:=jS this;exact⟨hB.qa s hs,by omega,tg this⟩
 ·have ht:=jL.tok;unfold cG at ht;unfold ub at h;by_cases h4:m.tok.target=(0,0)
  ·rw[if_pos h4]at ht ⊢;exact ht
  ·rw[if_neg h4]at h ⊢;split at h
   ·cases h
   ·rename_i h5;unfold gZ at h5;simp only[Bool.or_eq_true,not_or,Bool.not_eq_true,decide_eq_true_eq]at h5;obtain⟨⟨⟨⟨_,_⟩,e3⟩,e4⟩,e5⟩:=h5;have hi:=jS h;exact⟨hB.base,hB.target,by omega,by omega,by omega,tg h⟩
theorem qkE(b:Nat)(s:St):zZ (rD b s).1.base∧zZ (rD b s).1.target:=⟨rZ _,rZ _⟩
theorem q2S(s:St):mB (mP s):=by
 refine⟨fun x hx=>(qab _ _ _ x hx).2.2,?_,?_⟩
 ·show zZ (if _ then _ else zI:Tk).base;split
  ·exact(qkE _ _).1
  ·exact ng
 ·show zZ (if _ then _ else zI:Tk).target;split
  ·exact(qkE _ _).2
  ·exact ng
theorem qte(s:List UInt8):nb s=if gB (mP (some s))=(s,0)then(mP (some s),0)else(mt0,4):=by
 by_cases h:gB (mP (some s))=(s,0)
 ·rw[if_pos h];exact qbB (q2S _) h
 ·rw[if_neg h];rcases qoN s with⟨m,h1⟩|h1
  ·exfalso;have h2:=(qgu h1).1;have h3:=qk9 h2;apply h;rw[h3.2.1,qtd m (qkD (qwS h1) h3.1),← h3.2.1];exact h2
  ·exact h1
end Go.Proofs.YtdagdllomphidaaGreatDoor.mt.pg
namespace Go.Proofs
open _root_.Go.Proofs.Tryz Go.Shelf
def Tryz.qbE:Go.Shelf.Ren:=⟨fun | 129=>223|n=>n,fun | 53=>35 | 3=>3 | 4=>4 | 46=>224 | 5=>5 | 9=>9|n=>n,fun|n=>n⟩
theorem Tryz.qoQ:Go.Proofs.Lays.n129 prog Tryz.qbE:={
 mixed:=by kernel_rfl
 f129:=func223.trans (congrArg some (by kernel_rfl))
 t3:=underlying3
 a3:=isAgg3
 z3:=sizeOf3
 v3:=zeroValue3
 t4:=underlying4
 a4:=isAgg4
 z4:=sizeOf4
 v4:=zeroValue4
 t5:=underlying5
 a5:=isAgg5
 z5:=sizeOf5
 v5:=zeroValue5
 t9:=underlying9
 a9:=isAgg9
 z9:=sizeOf9
 v9:=zeroValue9
 t46:=underlying224
 a46:=isAgg224
 z46:=sizeOf224
 v46:=zeroValue224
 t53:=underlying35
 a53:=isAgg35
 z53:=sizeOf35
 v53:=zeroValue35 }
theorem Tryz.bits_Len64(x:Int)(w:World)(h0:0≤x)(h1:x≤18446744073709551615) :
    Calls prog 223 #[.int .u64 x] w fun e w'=>e=.returned (.int .i64 (Lib.bitLen x.toNat))∧w'=w:=Any.bits_Len64 Tryz.qoQ x w h0 h1
def Tryz.lp:Go.Shelf.Ren:=⟨fun | 166=>157 | 240=>190 | 276=>212|n=>n,fun | 0=>0 | 3=>3 | 4=>4 | 9=>9 | 20=>20 | 37=>118 | 70=>228 | 72=>230 | 75=>232 | 164=>291 | 5=>5 | 80=>235|n=>n,fun|n=>n⟩
theorem Tryz.qoR:Go.Proofs.Lays.n166 prog Tryz.lp:={
 mixed:=by kernel_rfl
 f166:=func157.trans (congrArg some (by kernel_rfl))
 f240:=func190.trans (congrArg some (by kernel_rfl))
 f276:=func212.trans (congrArg some (by kernel_rfl))
 t0:=underlying0
 a0:=isAgg0
 z0:=sizeOf0
 v0:=zeroValue0
 t3:=underlying3
 a3:=isAgg3
 z3:=sizeOf3
 v3:=zeroValue3
 t4:=underlying4
 a4:=isAgg4
 z4:=sizeOf4
 v4:=zeroValue4
 t9:=underlying9
 a9:=isAgg9
 z9:=sizeOf9
 v9:=zeroValue9
 t20:=underlying20
 a20:=isAgg20
 z20:=sizeOf20
 v20:=zeroValue20
 t37:=underlying118
 a37:=isAgg118
 z37:=sizeOf118
 v37:=zeroValue118
 t70:=underlying228
 a70:=isAgg228
 z70:=sizeOf228
 v70:=zeroValue228
 t72:=underlying230
 a72:=isAgg230
 z72:=sizeOf230
 v72:=zeroValue230
 t75:=underlying232
 a75:=isAgg232
 z75:=sizeOf232
 v75:=zeroValue232
 t164:=underlying291
 a164:=isAgg291
 z164:=sizeOf291
 v164:=zeroValue291 }
theorem Tryz.cI:Builder.Extra prog Tryz.lp:={
 sizeBuilder:=by kernel_rfl
 liesBuilder:=by kernel_rfl
 t5:=underlying5
 a5:=isAgg5
 z5:=sizeOf5
 v5:=zeroValue5
 infoByte:=by kernel_rfl
 cellsByte:=by kernel_rfl
 sizeByte:=by kernel_rfl
 neB5:=by decide }
open Go.RowKit in
theorem Tryz.Builder_WriteString(B b:Nat)(bs:List Value)(s:ByteArray)(w:World)(h:Lib.IsBuilder 230 5 B b bs w)(hlen:bs.length+s.size≤140737488355328)(hBw:B≤w.heap.size) :
    Calls prog 157 #[.pointer (some ⟨b,0,none⟩),.string s] w fun e w'=>e=.returned (.tuple #[.int .i64 s.size,.nilIface])∧(Lib.BuilderAt 230 5 B b (.pointer (some ⟨b,0,none⟩)) (bs++Lib.strCells s) w'∧Below B w w'):=Any.Builder_WriteString Tryz.qoR Tryz.cI B b bs s w h hlen hBw
def Tryz.lq:Go.Shelf.Ren:=⟨fun | 169=>159|n=>n,fun | 70=>228 | 9=>9 | 0=>0 | 72=>230 | 37=>118 | 127=>270 | 3=>3 | 5=>5|n=>n,fun|n=>n⟩
theorem Tryz.qoS:Go.Proofs.Lays.n169 prog Tryz.lq:={
 mixed:=by kernel_rfl
 f169:=func159.trans (congrArg some (by kernel_rfl))
 t0:=underlying0
 a0:=isAgg0
 z0:=sizeOf0
 v0:=zeroValue0
 t3:=underlying3
 a3:=isAgg3
 z3:=sizeOf3
 v3:=zeroValue3
 t9:=underlying9
 a9:=isAgg9
 z9:=sizeOf9
 v9:=zeroValue9
 t37:=underlying118
 a37:=isAgg118
 z37:=sizeOf118
 v37:=zeroValue118
 t70:=underlying228
 a70:=isAgg228
 z70:=sizeOf228
 v70:=zeroValue228
 t72:=underlying230
 a72:=isAgg230
 z72:=sizeOf230
 v72:=zeroValue230
 t127:=underlying270
 a127:=isAgg270
 z127:=sizeOf270
 v127:=zeroValue270 }
theorem Tryz.cJ:Builder.Extra prog Tryz.lq:={
 sizeBuilder:=by kernel_rfl
 liesBuilder:=by kernel_rfl
 t5:=underlying5
 a5:=isAgg5
 z5:=sizeOf5
 v5:=zeroValue5
 infoByte:=by kernel_rfl
 cellsByte:=by kernel_rfl
 sizeByte:=by kernel_rfl
 neB5:=by decide }
open Go.RowKit in
theorem Tryz.Builder_String_any(B b:Nat)(l:List UInt8)(w:World)(h:Lib.IsBuilder 230 5 B b (Lib.byteCells l) w)(hBw:B≤w.heap.size) :
    Calls prog 159 #[.pointer (some ⟨b,0,none⟩)] w fun e w'=>e=.returned (.string ⟨l.toArray⟩)∧Below B w w':=Any.Builder_String_any Tryz.qoS Tryz.cJ B b l w h hBw
end Go.Proofs
namespace Go.Proofs.YtdagdllomphidaaGreatDoor
open _root_.Go.Proofs.Tryz Go.RowKit
theorem Tryz.qkF:(prog.info? 9).map (fun i=>(i.zero,i.size,i.bytes))=some (some (.string ByteArray.empty),1,16):=by kernel_rfl
theorem Tryz.ni:(prog.info? 5).map (fun i=>(i.zero,i.size,i.bytes))=some (some (.int .u8 0),1,1):=by kernel_rfl
end Go.Proofs.YtdagdllomphidaaGreatDoor
namespace Go.Proofs.YtdagdllomphidaaGreatDoor.wi
open _root_.Go.Proofs.Tryz Go.RowKit
theorem sg (n:Int)(w:World)(h0:0≤n)(h1:n≤18446744073709551615) :
    Calls prog 219 #[.int .u64 n] w fun e w'=>e=.returned (.int .i64 ((zD n.toNat).length:Nat))∧w=w':=by
 have hc:=count_eq n.toNat (by omega);have hb:Lib.bitLen n.toNat≤64:=Lib.bitLen_le _ 64 (by omega) (by omega);have e1:((zD n.toNat).length:Int)=((Lib.bitLen n.toNat:Nat)+7:Int)/8:=by omega
 have E1:=QH e1;clear e1 hc;go_enter func219,ntmps219;go_wp2_with (go_at_call 223;refine(Tryz.bits_Len64 n _ h0 h1).mono ?_;rintro e w' ⟨rfl,rfl⟩);go_ret;exact⟨by rw[E1.out];rfl,rfl⟩
def qkG (n:Nat)(w:World)(e:Ending)(w':World):Prop :=
 e=.returned (.string (str [UInt8.ofNat (zD n).length]))∧Below w.heap.size w w'
theorem qwT(k:Nat)(hk:k<256)(w:World) :
    (convert 118 9 (.slice (some ⟨w.heap.size,0,none⟩) 1 1)).run prog (w.alloc (.cells #[.int .u8 (k:Int)] 5))=.ok (.string (str [UInt8.ofNat k])) (w.alloc (.cells #[.int .u8 (k:Int)] 5)):=by
 refine run_convert_bytes_back (P:=prog) _ 118 9 5 ⟨w.heap.size,0,none⟩ 1 [UInt8.ofNat k] underlying118 underlying5 underlying9 ?_;intro j hj;have:j=0:=by simpa using hj
 subst this;have e:(UInt8.ofNat k).toNat=k:=uU k hk;simp[Addr.add,e,World.cell?,World.alloc,-World.alloc_eq]
theorem cM (n:Int)(w:World)(h0:0≤n)(h1:n≤18446744073709551615) :
    Calls prog 207 #[.int .u64 n] w (qkG n.toNat w):=by
 have hl:=jC n.toNat;have hcv:=qwT (zD n.toNat).length (by omega) w;go_enter func207,ntmps207;go_wp2_with (go_at_call 219;refine(sg n _ h0 h1).mono ?_;rintro e w' ⟨rfl,rfl⟩);go_ret;exact⟨rfl,(Below.refl _ _).alloc (Nat.le_refl _) _⟩
def yR (D:List UInt8)(k:Nat):List Value:=List.replicate k (.int .u8 0)++Lib.byteCells (D.drop k)
def qbF (n:Nat)(w:World)(e:Ending)(w':World):Prop :=
 e=.returned (.string (str (zD n)))∧Below w.heap.size w w'
def qtf (D:List UInt8)(w:World)(n i:Value)(wr:World):Prop :=
 ∃k m:Nat,i=.int .i64 ((k:Int)-1)∧n=.int .u64 (m:Int)∧m<18446744073709551616∧zD m=D.take k∧k≤D.length ∧
  wr.ownsRow w.heap.size 5 1 (.slice (some ⟨w.heap.size,0,none⟩) D.length D.length) D.length (yR D k)∧Below w.heap.size w wr
theorem qac(D:List UInt8)(k:Nat)(h:k<D.length):(yR D (k+1)).set k (.int .u8 (D[k].toNat:Int))=yR D k:=by
 unfold yR;rw[List.replicate_succ',List.append_assoc,List.set_append_right _ _ (by simp),List.length_replicate,Nat.sub_self,List.drop_eq_getElem_cons h];rfl
theorem qkH(D:List UInt8)(m k:Nat)(hm:m<18446744073709551616)(hk:k<D.length)(h:zD m=D.take (k+1)) :
    m≠0∧zD (m/256)=D.take k∧D[k].toNat=m%256:=by
 have h0:m≠0:=by
  intro e;subst e;have:=congrArg List.length h;simp[qhv]at this;omega
 have e:=qk4 m h0 hm;rw[h,List.take_succ_eq_append_getElem hk]at e;have e':=List.append_inj' e rfl;refine⟨h0,e'.1.symm,?_⟩;have:=e'.2;simp at this;rw[this,uU _ (by omega)]
theorem nj (n:Int)(w:World)(h0:0≤n)(h1:n≤18446744073709551615) :
    Calls prog 208 #[.int .u64 n] w (qbF n.toNat w):=by
 have hl:=jC n.toNat;obtain⟨i0,hi,hz0,hz1,hz2⟩:=info_parts Tryz.ni;have hmk:=run_make (P:=prog) w 118 5 i0 (.int .u8 0) underlying118 hi hz0 .i64 .i64 ((zD n.toNat).length:Int) ((zD n.toNat).length:Int) (by omega) (by omega) (by rw[hz2];omega) (by omega);have qkI:(w.alloc (.cells (madeCells #[.int .u8 0] (zD n.toNat).length) 5)).ownsRow w.heap.size 5 1 (.slice (some ⟨w.heap.size,0,none⟩) (zD n.toNat).length (zD n.toNat).length) (zD n.toNat).length (yR (zD n.toNat) (zD n.toNat).length):=by
  have:=World.ownsRow_lit (e:=5) (size:=1) (base:=w.heap.size) w (madeCells #[.int .u8 0] (zD n.toNat).length) (zD n.toNat).length (Nat.le_refl _) (by unfold maxLen;omega) (by simp[size_madeCells]);have e:(madeCells #[.int .u8 0] (zD n.toNat).length).toList=yR (zD n.toNat) (zD n.toNat).length:=by
   apply List.ext_getElem?;intro j;by_cases hj:j<(zD n.toNat).length <;> simp[madeCells,yR,Lib.byteCells,hj,Nat.mod_one]
  rw[← e];exact this
 have hb0:Below w.heap.size w (w.alloc (.cells (madeCells #[.int .u8 0] (zD n.toNat).length) 5)):=(Below.refl _ _).alloc (Nat.le_refl _) _;have hn:((n.toNat:Nat):Int)=n:=by omega
 have Hn:=QH hn;clear hn;rw[hz1]at hmk;clear hi hz0 hz1 hz2;go_enter func208,ntmps208;go_wp2_with (go_at_call 219;refine(sg n _ h0 h1).mono ?_;rintro e w' ⟨rfl,rfl⟩);go_loopw [0,4] (fun n' i wr=>qtf (zD n.toNat) w n' i wr) (fun _ i _=>(intOf i+1).toNat);case atStart=>exact⟨(zD n.toNat).length,n.toNat,rfl,by rw[Hn.out],by omega,by simp,Nat.le_refl _,qkI,hb0⟩
 case round =>
  obtain⟨k,m,rfl,rfl,hm,hd,hk,hown,hb⟩:=hrel;cases k with
  | zero =>
   have hcv:=run_convert_bytes_back (P:=prog) wr 118 9 5 ⟨w.heap.size,0,none⟩ (zD n.toNat).length (zD n.toNat) underlying118 underlying5 underlying9 (by
    intro j hj;have:=hown.cellAt j (by omega);rw[addr_add,Nat.zero_add,this];simp[yR,Lib.byteCells,List.getElem?_eq_getElem hj])
   have qwU:(convert 118 9 (.slice (some ⟨w.heap.size,0,none⟩) (zD n.toNat).length (zD n.toNat).length)).run prog wr=.ok (.string (str (zD n.toNat))) wr:=hcv;clear hcv;go_wp2;go_ret;exact⟨rfl,hb⟩
  | succ k =>
   have hx:=hown.cellAt k (by omega);rw[show(yR (zD n.toNat) (k+1))[k]?=some (.int .u8 0)from by simp[yR,List.getElem?_append]]at hx;have hf:=hown.frozenAt k;have hs:=hown.stored k (.int .u8 (((zD n.toNat)[k]'(by omega)).toNat:Int));rw[qac _ _ (by omega)]at hs;obtain⟨hs1,hs2⟩:=hs;obtain⟨hm0,hd',vH⟩:=qkH (zD n.toNat) m k hm (by omega) hd;have Hs1:=QH hs1;have Hs2:=QH hs2;have Hd:=QH hd';have Hl:=QH vH;clear hs1 hs2 hd' vH hd hown;go_wp2;have e:((m:Int)%256)=(((zD n.toNat)[k]'(by omega)).toNat:Int):=by rw[Hl.out];omega
   rw[e];exact⟨⟨k,m/256,rfl,rfl,by omega,Hd.out,by omega,Hs1.out,hb.grown Hs2.out (by have:=hb.size;omega) (fun j hj=>by cases hj;exact Nat.le_refl _)⟩,by simp[intOf]⟩
theorem qkJ(n:Nat)(w:World)(h:n<18446744073709551616):Calls prog 207 #[.int .u64 (n:Int)] w (qkG n w):=by
 have:=cM (n:Int) w (by omega) (by omega)
 rwa [Int.toNat_natCast]at this
theorem qeh(n:Nat)(w:World)(h:n<18446744073709551616):Calls prog 208 #[.int .u64 (n:Int)] w (qbF n w):=by
 have:=nj (n:Int) w (by omega) (by omega)
 rwa [Int.toNat_natCast]at this
def cN (w:World)(b o:Nat)(ps:List ByteArray):Prop:=∀i (h:i<ps.length),w.cell? ⟨b,o+i,none⟩=some (.string ps[i])
def qwV (s:ByteArray)(ps:List ByteArray)(w:World)(e:Ending)(w':World):Prop :=
 e=.returned (.string (str (bl s++flat ps)))∧Below w.heap.size w w'
def qei (s:ByteArray)(ps:List ByteArray)(w:World)(i:Value)(wr:World):Prop :=
 ∃k:Nat,k≤ps.length∧i=.int .i64 (k:Int)∧Lib.IsBuilder 230 5 w.heap.size w.heap.size (Lib.byteCells (bl s++flat (ps.take k))) wr∧Below w.heap.size w wr
theorem jc (s:ByteArray)(b o c:Nat)(ps:List ByteArray)(w:World)(hb:b<w.heap.size)(hc:cN w b o ps)(hl:ps.length≤1000000)(hs:s.size+(flat ps).length≤140737488355328) :
    Calls prog 206 #[.string s,.slice (some ⟨b,o,none⟩) ps.length c] w (qwV s ps w):=by
 have h0:Lib.IsBuilder 230 5 w.heap.size w.heap.size [] (w.alloc (.cells #[.pointer none,.slice none 0 0] 230)):=Lib.fresh_isBuilder 230 5 w;have b0:Below w.heap.size w (w.alloc (.cells #[.pointer none,.slice none 0 0] 230)):=(Below.refl _ w).alloc (Nat.le_refl _) _;go_enter func206,ntmps206;go_wp2_with (go_at_call 157;refine(Tryz.Builder_WriteString w.heap.size w.heap.size [] s _ h0 (by simp;omega) b0.size).mono ?_);rintro e W1 ⟨rfl,h1,b1⟩;have h1':Lib.IsBuilder 230 5 w.heap.size w.heap.size (Lib.byteCells (bl s)) W1:=by
  rw[List.nil_append,Lib.strCells_eq]at h1;exact Or.inr h1
 have b1':=b0.trans b1;clear h1 b1 h0 b0;go_wp2;go_loopw [12] (fun i wr=>qei s ps w i wr) (fun i _=>ps.length-(intOf i).toNat);case atStart=>exact⟨0,Nat.zero_le _,rfl,by simpa[flat]using h1',b1'⟩
 case round =>
  obtain⟨k,hk,rfl,hI,hB⟩:=hrel;by_cases hlt:k<ps.length
  ·have hcell:wr.cell? ⟨b,o+k,none⟩=some (.string ps[k]):=by
      rw[hB.cell (p:=⟨b,o+k,none⟩) hb];exact hc k hlt
   have gD:=qhy ps k hlt;have hfm:=rC ps (k+1);have hbl:=zk s;have hbp:=zk ps[k];have hlen:(Lib.byteCells (bl s++flat (ps.take k))).length+ps[k].size≤140737488355328:=by
    rw[Lib.byteCells_length];rw[gD]at hfm;simp at hfm ⊢;omega
   have Hfl:=QH gD;clear gD hfm hbl hbp;go_wp2_with (go_at_call 157;refine(Tryz.Builder_WriteString w.heap.size w.heap.size _ ps[k] _ hI hlen hB.size).mono ?_);rintro e W2 ⟨rfl,h2,b2⟩;have h2':Lib.IsBuilder 230 5 w.heap.size w.heap.size (Lib.byteCells (bl s++flat (ps.take (k+1)))) W2:=by
    rw[Lib.strCells_eq,← Lib.byteCells_append]at h2;rw[Hfl.out,← List.append_assoc];exact Or.inr h2
   have b2':=hB.trans b2;clear h2 b2 hI hB;go_wp2;go_roundw;case rel=>exact⟨k+1,by omega,by go_num,h2',b2'⟩
   case measure=>simp[intOf];omega
  ·have uV:k=ps.length:=by omega
   subst uV;rw[List.take_length]at hI;go_wp2_with (go_at_call 159;refine(Tryz.Builder_String_any w.heap.size w.heap.size _ _ hI hB.size).mono ?_);rintro e W2 ⟨rfl,b2⟩;have b2':=hB.trans b2;clear b2 hI hB;go_wp2;go_ret;exact⟨rfl,b2'⟩
theorem cO (ps:List ByteArray)(w:World):cN (w.alloc (.cells (ps.map Value.string).toArray 9)) w.heap.size 0 ps:=by
 intro i h;simp[World.cell?,World.alloc,-World.alloc_eq]
theorem qad(a b:ByteArray)(w:World):cN (w.alloc (.cells #[.string a,.string b] 9)) w.heap.size 0 [a,b]:=cO [a,b] w
theorem nk (a b c:ByteArray)(w:World):cN (w.alloc (.cells #[.string a,.string b,.string c] 9)) w.heap.size 0 [a,b,c]:=cO [a,b,c] w
def qbG (s:ByteArray)(n:Nat)(w:World)(e:Ending)(w':World):Prop :=
 e=.returned (.string (str (bl s++zo n)))∧Below w.heap.size w w'
theorem qej(s:ByteArray)(n:Int)(w:World)(h0:0≤n)(h1:n≤18446744073709551615)(hs:s.size≤140737488355000) :
    Calls prog 176 #[.string s,.int .u64 n] w (qbG s n.toNat w):=by
 have hl:=jC n.toNat;go_enter func176,ntmps176;go_wp2_with (go_at_call 207;refine(cM n _ h0 h1).mono ?_);rintro e W1 ⟨rfl,b1⟩;go_wp2_with (go_at_call 208;refine(nj n _ h0 h1).mono ?_);rintro e W2 ⟨rfl,b2⟩;go_wp2_with (go_at_call 206;refine(jc s W2.heap.size 0 2 [str [UInt8.ofNat (zD n.toNat).length],str (zD n.toNat)] _ ?_ (qad _ _ _) (by simp) ?_).mono ?_)
 ·simp
 ·simp[flat,za];omega
 ·rintro e W3 ⟨rfl,b3⟩;have b':=qc (zw (qc b1 b2) _) b3;clear b1 b2 b3;go_wp2;go_ret;exact⟨by simp[flat,za,zo],b'⟩
theorem jT (s:ByteArray)(n:Nat)(w:World)(h:n<18446744073709551616)(hs:s.size≤140737488355000) :
    Calls prog 176 #[.string s,.int .u64 (n:Int)] w (qbG s n w):=by
 have:=qej s (n:Int) w (by omega) (by omega) hs
 rwa [Int.toNat_natCast]at this
theorem xS {w w1 w2:World}{r:Option Nat}(h:w.grownBy w1 r)(k:w1.grownBy w2 r):w.grownBy w2 r :=
 ⟨k.os.trans h.os,k.tape.trans h.tape,k.output.trans h.output,Nat.le_trans h.size k.size,
  fun i hi hr=>(k.block i (Nat.lt_of_lt_of_le hi h.size) hr).trans (h.block i hi hr)⟩
theorem wx (w:World)(r:Option Nat):w.grownBy w r:=⟨rfl,rfl,rfl,Nat.le_refl _,fun _ _ _=>rfl⟩
theorem qkK(l:List UInt8)(k:Nat)(h:k<l.length):val (l.take (k+1))=val (l.take k)*256+l[k].toNat:=by
 rw[List.take_succ_eq_append_getElem h,na]
def Row (w:World)(g o:Nat)(l:List UInt8):Prop :=
 ∃cs fr,w.heap[g]?=some (.cells cs 5 fr)∧∀i (h:i<l.length),cs[o+i]?=some (.int .u8 (l[i].toNat:Int))
def qek (b g o cap:Nat)(l:List UInt8)(bad:Bool)(w:World):Prop :=
 w.heap[b]?=some (.cells #[.slice (some ⟨g,o,none⟩) l.length cap,.bool bad] 215 (0,0))∧Row w g o l∧l.length≤cap∧l.length≤140737488355328
def zi (b:Nat)(l:List UInt8)(bad:Bool)(w:World):Prop:=∃g o cap,qek b g o cap l bad w
theorem ug {w:World}{b:Nat}{o:Obj}(h:w.heap[b]?=some o):b<w.heap.size:=by
 rcases Nat.lt_or_ge b w.heap.size with h' | h'
 ·exact h'
 ·simp[Array.getElem?_eq_none h']at h
theorem Row.cell{w:World}{g o:Nat}{l:List UInt8}(h:Row w g o l)(i:Nat)(hi:i<l.length):w.cell? ⟨g,o+i,none⟩=some (.int .u8 (l[i].toNat:Int)):=by
 obtain⟨cs,fr,hg,hc⟩:=h;simp[World.cell?,hg,hc i hi]
theorem Row.keep{w w':World}{g o:Nat}{l:List UInt8}(h:Row w g o l)(hk:w'.heap[g]?=w.heap[g]?):Row w' g o l:=by
 obtain⟨cs,fr,hg,hc⟩:=h;exact⟨cs,fr,hk.trans hg,hc⟩
theorem Row.drop{w:World}{g o:Nat}{l:List UInt8}(h:Row w g o l)(n:Nat):Row w g (o+n) (l.drop n):=by
 obtain⟨cs,fr,hg,hc⟩:=h;refine⟨cs,fr,hg,fun i hi=>?_⟩;have:=hc (n+i) (by simp at hi;omega);rw[Nat.add_assoc,this];simp
theorem Row.take{w:World}{g o:Nat}{l:List UInt8}(h:Row w g o l)(n:Nat):Row w g o (l.take n):=by
 obtain⟨cs,fr,hg,hc⟩:=h;refine⟨cs,fr,hg,fun i hi=>?_⟩;have:=hc i (by simp at hi;omega);rw[this];simp
theorem Row.nil0{w:World}{g o:Nat}{l:List UInt8}(h:Row w g o l)(o':Nat):Row w g o' []:=by
 obtain⟨cs,fr,hg,_⟩:=h;exact⟨cs,fr,hg,fun i hi=>by simp at hi⟩
theorem zi.keep{b c:Nat}{l m:List UInt8}{x y:Bool}{w w':World}(h:zi b l x w)(k:zi c m y w)(hne:b≠c)(hg:w.grownBy w' (some c)):zi b l x w':=by
 obtain⟨g,o,cap,hb,hr,h1,h2⟩:=h;obtain⟨_,_,_,hc,_⟩:=k;have hgc:g≠c:=by
  intro e;subst e;obtain⟨cs,fr,hg',_⟩:=hr;rw[hc]at hg';simp at hg'
 have gF:g<w.heap.size:=by obtain⟨cs,fr,hg',_⟩:=hr;exact ug hg'
 exact⟨g,o,cap,(hg.block b (ug hb) (by simpa using hne)).trans hb,hr.keep (hg.block g gF (by simpa using hgc)),h1,h2⟩
theorem zi.below{b:Nat}{l:List UInt8}{x:Bool}{w w':World}(h:zi b l x w)(hg:Below w.heap.size w w'):zi b l x w':=by
 obtain⟨g,o,cap,hb,hr,h1,h2⟩:=h;have gF:g<w.heap.size:=by obtain⟨cs,fr,hg',_⟩:=hr;exact ug hg'
 exact⟨g,o,cap,(hg.block b (ug hb)).trans hb,hr.keep (hg.block g gF),h1,h2⟩
theorem zi.lt{b:Nat}{l:List UInt8}{x:Bool}{w:World}(h:zi b l x w):b<w.heap.size:=by
 obtain⟨_,_,_,hb,_⟩:=h;exact ug hb
def qwW (s:ByteArray)(w:World)(e:Ending)(w':World):Prop :=
 ∃b,e=.returned (.pointer (some ⟨b,0,none⟩))∧w.heap.size≤b∧zi b (bl s) false w'∧Below w.heap.size w w'
theorem qae(s:ByteArray)(w:World)(hs:s.size≤140737488355328) :
    Calls prog 92 #[.string s] w (qwW s w):=by
 have hcv:=Lib.run_convert_string_bytes (P:=prog) w 9 118 5 s underlying9 underlying118 underlying5;have hsz:=Lib.bytesWorld_size w 5 s;have hnew:=Lib.bytesWorld_at_new w 5 s;have hold:=Lib.bytesWorld_at_old w 5 s;have qkL:=grownCap_ge w s.size 0 5;have hcell:∀i (h:i<(bl s).length),(Lib.bytesCells w 5 s)[0+i]?=some (.int .u8 ((bl s)[i].toNat:Int)):=by
  intro i hi;have hi':i<s.size:=by rw[← zk];exact hi
  have:=Lib.bytesWorld_cell w 5 s i hi';simp[World.cell?,hnew]at this;rw[Nat.zero_add,this];simp[bl,hi']
 have hos:(Lib.bytesWorld w 5 s).os=w.os∧(Lib.bytesWorld w 5 s).tape=w.tape∧(Lib.bytesWorld w 5 s).output=w.output:=⟨rfl,rfl,rfl⟩;have vI:Below w.heap.size w (Lib.bytesWorld w 5 s):=⟨hos.1,hos.2.1,hos.2.2,by omega,fun k hk=>hold k hk⟩;have hlen:=zk s;generalize Lib.bytesWorld w 5 s=W1 at *;generalize grownCap w s.size 0 5=cap at *;have Hsz:=QH hsz;have q2W:=QH hnew;have qwX:=QH hcell;have q2X:=QH hlen;clear hsz hnew hcell hold hos hlen;go_enter func92,ntmps92;go_wp2;go_ret;have Hl:=q2X.out;have hW:(W1.alloc (.cells #[.slice (some ⟨w.heap.size,0,none⟩) s.size cap,.bool false] 215)).heap[W1.heap.size]?=some (.cells #[.slice (some ⟨w.heap.size,0,none⟩) s.size cap,.bool false] 215 (0,0)):=by
  show(W1.heap.push _)[W1.heap.size]?=_;simp
 have hO:=Below.heap_alloc W1 (.cells #[.slice (some ⟨w.heap.size,0,none⟩) s.size cap,.bool false] 215) w.heap.size (by have:=Hsz.out;omega);refine⟨W1.heap.size,rfl,by have:=Hsz.out;omega,⟨w.heap.size,0,cap,by rw[Hl];exact hW,⟨_,_,hO.trans q2W.out,qwX.out⟩,by omega,by omega⟩,zw vI _⟩
theorem qel(b:Nat)(l:List UInt8)(w:World)(h:zi b l false w) :
    Calls prog 204 #[.pointer (some ⟨b,0,none⟩)] w fun e w'=>e=.returned (.bool true)∧w=w':=by
 obtain⟨g,o,cap,hb,_⟩:=h;have h1:w.cell? ⟨b,1,none⟩=some (.bool false):=by simp[World.cell?,hb]
 clear hb;go_enter func204,ntmps204;go_wp2;go_ret;exact⟨rfl,rfl⟩
theorem qkM(b:Nat)(l:List UInt8)(w:World)(h:zi b l true w) :
    Calls prog 204 #[.pointer (some ⟨b,0,none⟩)] w fun e w'=>e=.returned (.bool false)∧w=w':=by
 obtain⟨g,o,cap,hb,_⟩:=h;have h1:w.cell? ⟨b,1,none⟩=some (.bool true):=by simp[World.cell?,hb]
 clear hb;go_enter func204,ntmps204;go_wp2;go_ret;exact⟨rfl,rfl⟩
def tailOff(o len n:Nat):Nat:=if len=n then o else o+n
def qth (b g o:Nat)(l:List UInt8)(n:Nat)(x:Bool)(w:World)(e:Ending)(w':World):Prop :=
 e=.returned (.tuple #[.slice (some ⟨g,o,none⟩) n n,.bool true])∧qek b g (tailOff o l.length n) (l.length-n) (l.drop n) x w'∧w.grownBy w' (some b)∧Row w' g o (l.take n)
theorem qem(g o len cap:Nat)(n:Int)(h0:0≤n)(hn:n.toNat≤cap)(w:World) :
    (Instr.slice 118 (.slice (some ⟨g,o,none⟩) len cap) none (some (.int .u64 n)) (some (.int .u64 n))).run prog w=.ok (.slice (some ⟨g,o,none⟩) n.toNat n.toNat) w:=by
 have h1:n≤(cap:Int):=by omega
 rw[run_slice_any (P:=prog) w 118 (some ⟨g,o,none⟩) len cap underlying118];simp[Instr.sliceBounds,run_sliceBound,h0,h1,go_sem];intro h;omega
theorem qen(g o len cap:Nat)(n:Int)(h0:0≤n)(hn:n.toNat≤len)(hc:len≤cap)(w:World) :
    (Instr.slice 118 (.slice (some ⟨g,o,none⟩) len cap) (some (.int .u64 n)) (some (.int .i64 (len:Int))) (some (.int .i64 (len:Int)))).run prog w=.ok (.slice (some ⟨g,tailOff o len n.toNat,none⟩) (len-n.toNat) (len-n.toNat)) w:=by
 have h1:n≤(len:Int):=by omega
 have h2:(len:Int)≤(cap:Int):=by omega
 rw[run_slice_any (P:=prog) w 118 (some ⟨g,o,none⟩) len cap underlying118];unfold tailOff;by_cases hl:len=n.toNat
 ·simp[Instr.sliceBounds,run_sliceBound,h0,h1,hc,go_sem];rw[if_pos hl,if_pos hl]
 ·simp[Instr.sliceBounds,run_sliceBound,h0,h1,hc,hl,go_sem]
theorem qkN{w:World}{g o:Nat}{l:List UInt8}(h:Row w g o l)(n:Nat):Row w g (tailOff o l.length n) (l.drop n):=by
 unfold tailOff;split
 ·have e:l.drop n=[]:=by simp;omega
  rw[e];exact h.nil0 o
 ·exact h.drop n
theorem uh (b g o cap:Nat)(l:List UInt8)(x:Bool)(n:Int)(w:World)(hR:qek b g o cap l x w)(h0:0≤n)(hn:n.toNat≤l.length) :
    Calls prog 205 #[.pointer (some ⟨b,0,none⟩),.int .u64 n] w (qth b g o l n.toNat x w):=by
 obtain⟨hb,hr,hc,hl⟩:=hR;have h1:w.cell? ⟨b,0,none⟩=some (.slice (some ⟨g,o,none⟩) l.length cap):=by simp[World.cell?,hb]
 have h2:w.frozen? ⟨b,0,none⟩=false:=by simp[World.frozen?,hb]
 have hs1:=qem g o l.length cap n h0 (by omega) w;have hs2:=qen g o l.length cap n h0 hn hc w;have ht:¬ ((l.length:Int)<n):=by omega
 have hw:=heap_setCell_same w b 0 _ 215 (.slice (some ⟨g,tailOff o l.length n.toNat,none⟩) (l.length-n.toNat) (l.length-n.toNat)) hb;have hgr:w.grownBy (w.setCell ⟨b,0,none⟩ (.slice (some ⟨g,tailOff o l.length n.toNat,none⟩) (l.length-n.toNat) (l.length-n.toNat))) (some b) :=
  ⟨rfl,rfl,rfl,by simp[World.setCell],fun k _ hk=>Below.heap_setCell _ _ _ _ (fun e=>hk (by simp[e]))⟩
 have hgb:g≠b:=by
  intro e;subst e;obtain⟨cs,fr,hg',_⟩:=hr;rw[hb]at hg';simp at hg'
 have rE:=Below.heap_setCell w ⟨b,0,none⟩ (.slice (some ⟨g,tailOff o l.length n.toNat,none⟩) (l.length-n.toNat) (l.length-n.toNat)) g hgb;have hr1:=(qkN hr n.toNat).keep rE;have hr2:=(hr.take n.toNat).keep rE;have qkO:qek b g (tailOff o l.length n.toNat) (l.length-n.toNat) (l.drop n.toNat) x (w.setCell ⟨b,0,none⟩ (.slice (some ⟨g,tailOff o l.length n.toNat,none⟩) (l.length-n.toNat) (l.length-n.toNat))):=by
  refine⟨?_,hr1,by simp,by simp;omega⟩;rw[hw];simp
 have Hf:=QH qkO;have Hg:=QH hgr;have Hr2:=QH hr2;clear qkO hgr hr1 hr2 rE hw hb;go_enter func205,ntmps205;go_wp2;go_ret2;exact⟨rfl,Hf.out,Hg.out,Hr2.out⟩
def qkP (w:World)(e:Ending)(w':World):Prop:=e=.returned (.tuple #[.slice none 0 0,.bool false])∧w=w'
theorem qaf(b g o cap:Nat)(l:List UInt8)(x:Bool)(n:Int)(w:World)(hR:qek b g o cap l x w)(hn:(l.length:Int)<n) :
    Calls prog 205 #[.pointer (some ⟨b,0,none⟩),.int .u64 n] w (qkP w):=by
 obtain⟨hb,_,_,hl⟩:=hR;have h1:w.cell? ⟨b,0,none⟩=some (.slice (some ⟨g,o,none⟩) l.length cap):=by simp[World.cell?,hb]
 clear hb;go_enter func205,ntmps205;go_wp2;go_ret2;exact⟨rfl,rfl⟩
def si (b:Nat)(l:List UInt8)(x:Bool)(w:World)(e:Ending)(w':World):Prop :=
 w.grownBy w' (some b) ∧
  ((∃n r,rdNum l=some (n,r)∧e=.returned (.tuple #[.int .u64 (n:Int),.bool true])∧zi b r x w') ∨
   (rdNum l=none∧e=.returned (.tuple #[.int .u64 0,.bool false])∧∃m,zi b m x w'))
theorem qh0(b:Nat)(x:Bool)(w:World)(h:zi b [] x w) :
    Calls prog 175 #[.func (.func 205) #[.pointer (some ⟨b,0,none⟩)] #[]] w (si b [] x w):=by
 obtain⟨g,o,cap,hR⟩:=h;have hR':zi b [] x w:=⟨g,o,cap,hR⟩;go_enter func175,ntmps175;go_wp2_with (go_at_call 205;refine(qaf b g o cap [] x 1 _ hR (by simp)).mono ?_;rintro e w' ⟨rfl,rfl⟩);go_ret2;exact⟨wx _ _,.inr ⟨rfl,rfl,[],hR'⟩⟩
theorem Row.cell0{w:World}{g o:Nat}{k:UInt8}{r:List UInt8}(h:Row w g o (k::r)):w.cell? ⟨g,o,none⟩=some (.int .u8 (k.toNat:Int)):=by
 have:=h.cell 0 (by simp);simpa using this
theorem qoT(b:Nat)(k:UInt8)(r:List UInt8)(x:Bool)(w:World)(h:zi b (k::r) x w)(hk:8<k.toNat) :
    Calls prog 175 #[.func (.func 205) #[.pointer (some ⟨b,0,none⟩)] #[]] w (si b (k::r) x w):=by
 obtain⟨g,o,cap,hR⟩:=h;have jD:(8:Int)<(k.toNat:Int):=by omega
 have hnone:rdNum (k::r)=none:=by simp[rdNum,hk]
 have Hn:=QH hnone;clear hnone;go_enter func175,ntmps175;go_wp2_with (go_at_call 205;refine(uh b g o cap (k::r) x 1 _ hR (by decide) (by simp)).mono ?_);rintro e w1 ⟨rfl,h1,h2,h3⟩;have hc:w1.cell? ⟨g,o,none⟩=some (.int .u8 (k.toNat:Int)):=Row.cell0 (r:=[]) h3;have H1:=QH h1;have H2:=QH h2;clear h1 h2 h3;go_wp2;go_ret2;exact⟨H2.out,.inr ⟨Hn.out,rfl,r,⟨_,_,_,H1.out⟩⟩⟩
theorem qh1(b:Nat)(k:UInt8)(r:List UInt8)(x:Bool)(w:World)(h:zi b (k::r) x w)(hk:k.toNat≤8)(hr:r.length<k.toNat) :
    Calls prog 175 #[.func (.func 205) #[.pointer (some ⟨b,0,none⟩)] #[]] w (si b (k::r) x w):=by
 obtain⟨g,o,cap,hR⟩:=h;have jD:¬ (8:Int)<(k.toNat:Int):=by omega
 have hnone:rdNum (k::r)=none:=by simp[rdNum,Nat.not_lt.2 hk,hr]
 have Hn:=QH hnone;clear hnone;go_enter func175,ntmps175;go_wp2_with (go_at_call 205;refine(uh b g o cap (k::r) x 1 _ hR (by decide) (by simp)).mono ?_);rintro e w1 ⟨rfl,h1,h2,h3⟩;have hc:w1.cell? ⟨g,o,none⟩=some (.int .u8 (k.toNat:Int)):=Row.cell0 (r:=[]) h3;have H1:=QH h1;have H2:=QH h2;clear h1 h2 h3;go_wp2_with (go_at_call 205;refine(qaf b g _ _ r x _ _ H1.out (by omega)).mono ?_;rintro e w' ⟨rfl,rfl⟩);go_ret2;exact⟨H2.out,.inr ⟨Hn.out,rfl,r,⟨_,_,_,H1.out⟩⟩⟩
theorem qkQ(b:Nat)(k:UInt8)(r:List UInt8)(x:Bool)(w:World)(h:zi b (k::r) x w)(hk:k.toNat≤8)(hr:k.toNat≤r.length)(h0:(r.take k.toNat).head? = some 0) :
    Calls prog 175 #[.func (.func 205) #[.pointer (some ⟨b,0,none⟩)] #[]] w (si b (k::r) x w):=by
 obtain⟨g,o,cap,hR⟩:=h;have jD:¬ (8:Int)<(k.toNat:Int):=by omega
 have hnone:rdNum (k::r)=none:=by simp[rdNum,Nat.not_lt.2 hk,Nat.not_lt.2 hr];exact h0
 have Hn:=QH hnone;have hkp:(0:Int)<(k.toNat:Int):=by
  have:k.toNat≠0:=by
   intro e;rw[e]at h0;simp at h0
  omega
 have H0:=QH h0;clear hnone h0;go_enter func175,ntmps175;go_wp2_with (go_at_call 205;refine(uh b g o cap (k::r) x 1 _ hR (by decide) (by simp)).mono ?_);rintro e w1 ⟨rfl,h1,h2,h3⟩;have hc:w1.cell? ⟨g,o,none⟩=some (.int .u8 (k.toNat:Int)):=Row.cell0 (r:=[]) h3;obtain⟨o1,c1,h1⟩:∃o1 c1,qek b g o1 c1 r x w1:=⟨_,_,h1⟩;have H1:=QH h1;have H2:=QH h2;clear h1 h2 h3;go_wp2_with (go_at_call 205;refine(uh b g o1 c1 r x (k.toNat:Int) _ H1.out (by omega) (by omega)).mono ?_);rintro e w2 ⟨rfl,h1,h2,h3⟩;rw[Int.toNat_natCast]at h1 h3;have hc0:w2.cell? ⟨g,o1,none⟩=some (.int .u8 0):=by
  have e0:=H0.out;cases hd:r.take k.toNat with
  | nil=>rw[hd]at e0;simp at e0
  | cons y q =>
   rw[hd]at e0 h3;simp at e0;subst e0;exact Row.cell0 h3
 have H3:=QH h1;have H4:=QH h2;clear h1 h2 h3 hc;go_wp2;go_ret2;exact⟨xS H2.out H4.out,.inr ⟨Hn.out,rfl,_,⟨_,_,_,H3.out⟩⟩⟩
theorem qoU(v z:Nat)(hv:v<72057594037927936)(hz:z<256):bits BinOp.or IntKind.u64 ((v:Int)*256) (z:Int)=((v*256+z:Nat):Int):=by
 have e:(v:Int)*256=((v*256:Nat):Int):=by omega
 rw[e,u64_or_nat _ _ (by omega) (by omega)];have:=Nat.shiftLeft_add_eq_or_of_lt (i:=8) (b:=z) (by omega) v;rw[Nat.shiftLeft_eq,show(2:Nat) ^ 8=256 from rfl]at this;rw[← this]
def qkR (d:List UInt8)(n i:Value):Prop:=∃j:Nat,j≤d.length∧i=.int .i64 (j:Int)∧n=.int .u64 (val (d.take j):Int)
theorem qkS(b:Nat)(k:UInt8)(r:List UInt8)(x:Bool)(w:World)(h:zi b (k::r) x w)(hk:k.toNat≤8)(hr:k.toNat≤r.length)(h0:¬ (r.take k.toNat).head? = some 0) :
    Calls prog 175 #[.func (.func 205) #[.pointer (some ⟨b,0,none⟩)] #[]] w (si b (k::r) x w):=by
 obtain⟨g,o,cap,hR⟩:=h;have jD:¬ (8:Int)<(k.toNat:Int):=by omega
 have hsome:rdNum (k::r)=some (val (r.take k.toNat),r.drop k.toNat):=by simp[rdNum,Nat.not_lt.2 hk,Nat.not_lt.2 hr,h0]
 have Hn:=QH hsome;have H0:=QH h0;clear hsome h0;go_enter func175,ntmps175;go_wp2_with (go_at_call 205;refine(uh b g o cap (k::r) x 1 _ hR (by decide) (by simp)).mono ?_);rintro e w1 ⟨rfl,h1,h2,h3⟩;have hc:w1.cell? ⟨g,o,none⟩=some (.int .u8 (k.toNat:Int)):=Row.cell0 (r:=[]) h3;obtain⟨o1,c1,h1⟩:∃o1 c1,qek b g o1 c1 r x w1:=⟨_,_,h1⟩;have H1:=QH h1;have H2:=QH h2;clear h1 h2 h3;go_wp2_with (go_at_call 205;refine(uh b g o1 c1 r x (k.toNat:Int) _ H1.out (by omega) (by omega)).mono ?_);rintro e w2 ⟨rfl,h1,h2,h3⟩;rw[Int.toNat_natCast]at h1 h3;have H3:=QH h1;have H4:=QH h2;have hlen:(r.take k.toNat).length=k.toNat:=by simp;omega
 obtain⟨d,hd⟩:∃d,d=r.take k.toNat:=⟨_,rfl⟩;have hE:Hid (rdNum (k::r)=some (val d,r.drop k.toNat)):=by rw[hd];exact Hn
 have hZ:Hid (¬ d.head? = some 0):=by rw[hd];exact H0
 rw[← hd]at hlen h3;clear hd Hn H0 h1 h2 hc hR;have hkb:k.toNat≤8:=hk;cases d with
 | nil =>
  have hk0:¬ (0:Int)<(k.toNat:Int):=by simp at hlen;omega
  have Hl:=QH hlen;have H5:=QH h3;clear hlen h3 hZ;go_wp2;go_loop [7,47] (fun n i=>qkR [] n i) (fun _ i=>k.toNat-(intOf i).toNat);case atStart=>exact⟨0,Nat.zero_le _,rfl,rfl⟩
  case round =>
   obtain⟨j,hj,rfl,rfl⟩:=hrel;have hlt:¬ j<k.toNat:=by omega
   go_wp2;go_ret2;exact⟨xS H2.out H4.out,.inl ⟨val [],_,hE.out,by simp,_,_,_,H3.out⟩⟩
 | cons y q =>
  have hk0:(0:Int)<(k.toNat:Int):=by simp at hlen;omega
  have hc:=Row.cell0 h3;have hy:((y.toNat:Int) == 0)=false:=by
   have hz:=hZ.out;simp at hz;have:y.toNat≠0:=fun e=>hz (by apply UInt8.toNat_inj.1;simpa using e);simp;omega
  have Hl:=QH hlen;have H5:=QH h3;clear hlen h3 hZ;go_wp2;go_loop [7,47] (fun n i=>qkR (y::q) n i) (fun _ i=>k.toNat-(intOf i).toNat);case atStart=>exact⟨0,Nat.zero_le _,rfl,rfl⟩
  case round =>
   obtain⟨j,hj,rfl,rfl⟩:=hrel;by_cases hlt:j<k.toNat
   ·have hl:=Hl.out;have hc:=H5.out.cell j (by omega);have hb:val ((y::q).take j)<72057594037927936:=by
     have a:=qk6 ((y::q).take j);have b:256 ^ ((y::q).take j).length≤256 ^ 7:=Nat.pow_le_pow_right (by omega) (by rw[List.length_take];omega);have e:(256:Nat) ^ 7=72057594037927936:=by decide
     omega
    have hs:=qkK (y::q) j (by omega);have Hs:=QH hs;generalize val ((y::q).take j)=v at *;generalize (y::q)[j]=z at *;have hzb:z.toNat<256:=z.toNat_lt;clear hs;go_wp2;rw[qoU v z.toNat hb hzb];exact⟨⟨j+1,by omega,by go_num,by rw[Hs.out]⟩,by simp[intOf];omega⟩
   ·have hl:=Hl.out;have hjl:j=(y::q).length:=by omega
    have ht:val ((y::q).take j)=val (y::q):=by rw[hjl,List.take_length]
    have Ht:=QH ht;clear ht hjl hl;go_wp2;go_ret2;exact⟨xS H2.out H4.out,.inl ⟨val (y::q),_,hE.out,by rw[← Ht.out];rfl,_,_,_,H3.out⟩⟩
theorem qgw(b:Nat)(l:List UInt8)(x:Bool)(w:World)(h:zi b l x w) :
    Calls prog 175 #[.func (.func 205) #[.pointer (some ⟨b,0,none⟩)] #[]] w (si b l x w):=by
 cases l with
 | nil=>exact qh0 b x w h
 | cons k r =>
  by_cases hk:k.toNat≤8
  ·by_cases hr:k.toNat≤r.length
   ·by_cases h0:(r.take k.toNat).head? = some 0
    ·exact qkQ b k r x w h hk hr h0
    ·exact qkS b k r x w h hk hr h0
   ·exact qh1 b k r x w h hk (by omega)
  ·exact qoT b k r x w h (by omega)
theorem zi.flag{b:Nat}{l:List UInt8}{x:Bool}{w:World}(h:zi b l x w)(y:Bool):zi b l y (w.setCell ⟨b,1,none⟩ (.bool y)):=by
 obtain⟨g,o,cap,hb,hr,h1,h2⟩:=h;have hgb:g≠b:=by
  intro e;subst e;obtain⟨cs,fr,hg',_⟩:=hr;rw[hb]at hg';simp at hg'
 have hw:=heap_setCell_same w b 1 _ 215 (.bool y) hb;exact⟨g,o,cap,by rw[hw];simp,hr.keep (Below.heap_setCell w _ _ g hgb),h1,h2⟩
theorem zi.ah(b:Nat)(w:World)(v:Value):w.grownBy (w.setCell ⟨b,1,none⟩ v) (some b) :=
 ⟨rfl,rfl,rfl,by simp[World.setCell],fun k _ hk=>Below.heap_setCell _ _ _ _ (fun e=>hk (by simp[e]))⟩
theorem zi.cell1{b:Nat}{l:List UInt8}{x:Bool}{w:World}(h:zi b l x w):w.cell? ⟨b,1,none⟩=some (.bool x)∧w.frozen? ⟨b,1,none⟩=false:=by
 obtain⟨g,o,cap,hb,_⟩:=h;exact⟨by simp[World.cell?,hb],by simp[World.frozen?,hb]⟩
def mJ (b:Nat)(l:List UInt8)(w:World)(e:Ending)(w':World):Prop :=
 w.grownBy w' (some b) ∧
  ((∃n r,rdNum l=some (n,r)∧e=.returned (.int .u64 (n:Int))∧zi b r false w') ∨
   (rdNum l=none∧e=.returned (.int .u64 0)∧∃m,zi b m true w'))
theorem qbJ(b:Nat)(l:List UInt8)(w:World)(h:zi b l false w) :
    Calls prog 174 #[.pointer (some ⟨b,0,none⟩),.func (.func 175) #[] #[]] w (mJ b l w):=by
 go_enter func174,ntmps174;go_wp2_with (go_at_call 204;refine(qel b l _ h).mono ?_;rintro e w' ⟨rfl,rfl⟩);go_wp2_with (go_at_call 175;refine(qgw b l false _ h).mono ?_);rintro e w1 ⟨hg,⟨n,r,hn,rfl,hr⟩|⟨hn,rfl,m,hm⟩⟩
 ·have Hn:=QH hn;have Hg:=QH hg;obtain⟨hc,hf⟩:=hr.cell1;have Hr:=QH (hr.flag false);clear hn hg hr;go_wp2;go_ret;exact⟨xS Hg.out (zi.ah _ _ _),.inl ⟨n,r,Hn.out,rfl,Hr.out⟩⟩
 ·have Hn:=QH hn;have Hg:=QH hg;obtain⟨hc,hf⟩:=hm.cell1;have Hr:=QH (hm.flag true);clear hn hg hm;go_wp2;go_ret;exact⟨xS Hg.out (zi.ah _ _ _),.inr ⟨Hn.out,rfl,m,Hr.out⟩⟩
theorem qbK(b:Nat)(l:List UInt8)(w:World)(h:zi b l true w) :
    Calls prog 174 #[.pointer (some ⟨b,0,none⟩),.func (.func 175) #[] #[]] w fun e w'=>e=.returned (.int .u64 0)∧w=w':=by
 go_enter func174,ntmps174;go_wp2_with (go_at_call 204;refine(qkM b l _ h).mono ?_;rintro e w' ⟨rfl,rfl⟩);go_ret;exact⟨rfl,rfl⟩
theorem vJ (b:Nat)(l:List UInt8)(w:World)(h:zi b l false w):Calls prog 127 #[.pointer (some ⟨b,0,none⟩)] w (mJ b l w):=by
 go_enter func127,ntmps127;go_wp2_with (go_at_call 174;refine(qbJ b l _ h).mono ?_);rintro e w1 ⟨hg,⟨n,r,hn,rfl,hr⟩|⟨hn,rfl,hm⟩⟩
 ·have H:Hid (mJ b l w (.returned (.int .u64 (n:Int))) w1):=⟨hg,.inl ⟨n,r,hn,rfl,hr⟩⟩;clear hg hn hr;go_wp2;go_ret;exact H.out
 ·have H:Hid (mJ b l w (.returned (.int .u64 0)) w1):=⟨hg,.inr ⟨hn,rfl,hm⟩⟩;clear hg hn hm;go_wp2;go_ret;exact H.out
theorem np (b:Nat)(l:List UInt8)(w:World)(h:zi b l true w):Calls prog 127 #[.pointer (some ⟨b,0,none⟩)] w fun e w'=>e=.returned (.int .u64 0)∧w=w':=by
 go_enter func127,ntmps127;go_wp2_with (go_at_call 174;refine(qbK b l _ h).mono ?_;rintro e w' ⟨rfl,rfl⟩);go_ret;exact⟨rfl,rfl⟩
end Go.Proofs.YtdagdllomphidaaGreatDoor.wi
namespace Go.Proofs.YtdagdllomphidaaGreatDoor.ib
open _root_.Go.Proofs.Tryz Go Go.RowKit Go.ChangeShapes Go.WideShapes Go.Deep
def qC (x:Int):Prop:=-9223372036854775808≤x∧x≤9223372036854775807
def qJ (w:World)(a:Option Addr)(zs:List Int):Prop :=
 ∀i (h:i<zs.length),∃b o,a=some ⟨b,o,none⟩∧b<w.heap.size∧w.cell? ⟨b,o+i,none⟩=some (.int .i64 zs[i])∧qC zs[i]
theorem qJ.below{w w':World}{a:Option Addr}{zs:List Int}(h:qJ w a zs)(hb:Below w.heap.size w w'):qJ w' a zs:=by
 intro i hi;obtain⟨b,o,h1,h2,h3,h4⟩:=h i hi;exact⟨b,o,h1,Nat.lt_of_lt_of_le h2 hb.size,by rw[hb.cell (p:=⟨b,o+i,none⟩) h2];exact h3,h4⟩
theorem qJ.nil(w:World)(a:Option Addr):qJ w a []:=fun i h=>absurd h (by simp)
theorem qJ.mem{w:World}{a:Option Addr}{zs:List Int}(h:qJ w a zs):∀z∈zs,qC z:=by
 intro z hz;obtain⟨i,hi,rfl⟩:=List.getElem_of_mem hz;obtain⟨_,_,_,_,_,h4⟩:=h i hi;exact h4
theorem qJ.take{w:World}{a:Option Addr}{zs:List Int}(h:qJ w a zs)(n:Nat):qJ w a (zs.take n):=fun i hi=>by
 have:=h i (by simp at hi;omega);simpa using this
def zv (w:World)(B:Nat)(v:Value)(zs:List Int):Prop:=w.ownsRow B 3 1 v zs.length (zs.map (Value.int .i64))
theorem wy:(prog.info? 3).map (fun i=>(i.zero,i.size,i.bytes))=some (some (.int .i64 0),1,8):=by kernel_rfl
theorem zv.view{w:World}{B:Nat}{v:Value}{zs:List Int}(h:zv w B v zs)(hz:∀z∈zs,qC z):∃a c,v=.slice a zs.length c∧qJ w a zs∧∀b o,a=some ⟨b,o,none⟩→B≤b∧b<w.heap.size:=by
 rcases h.2 with⟨rfl,h0⟩|⟨g,cap,cur,rfl,hg,hh,hcc,hm,hcs,xI⟩
 ·obtain rfl:zs=[]:=List.length_eq_zero_iff.1 h0;exact⟨none,0,rfl,(fun i h=>by simp at h),fun b o h=>by cases h⟩
 ·refine⟨some ⟨g,0,none⟩,cap,rfl,fun i hi=>⟨g,0,rfl,(Array.getElem?_eq_some_iff.1 hh).1,?_,hz _ (List.getElem_mem hi)⟩,fun b o h=>?_⟩
  ·rw[Nat.zero_add,cell_of_row w g i cur 3 (0,0) hh];have h3:(cur.toList.take (zs.length*1))[i]?=some (.int .i64 zs[i]):=by rw[xI];simp[hi]
   rw[List.getElem?_take]at h3;split at h3
   ·simpa using h3
   ·cases h3
  ·simp only[Option.some.injEq,Addr.mk.injEq,and_true]at h;obtain⟨rfl,_⟩:=h;exact⟨hg,(Array.getElem?_eq_some_iff.1 hh).1⟩
theorem qwZ{w:World}{a:Addr}{v:Value}(h:w.cell? (a.add 0)=some v):∃b o,a=⟨b,o,none⟩∧b<w.heap.size:=by
 have hs:=World.cell?_spot h;obtain⟨b,o,s⟩:=a;have hs0:s=none:=by simpa[Addr.add]using hs
 subst hs0;exact⟨b,o,rfl,World.block_lt_of_cell? w _ h⟩
theorem dc {α:Type}{p:Nat→α→Prop}:∀(n:Nat),(∀i,i<n→∃x,p i x)→∃l:List α,l.length=n∧∀i (h:i<l.length),p i l[i]
 | 0,_=>⟨[],rfl,fun i h=>absurd h (by simp)⟩
 | n+1,h=>by
  obtain⟨l,hl,hp⟩:=dc n (fun i hi=>h i (by omega));obtain⟨x,hx⟩:=h n (by omega);refine⟨l++[x],by simp[hl],fun i hi=>?_⟩;by_cases hin:i<l.length
  ·rw[List.getElem_append_left hin];exact hp i hin
  ·have:i=l.length:=by simp at hi;omega
   subst this;rw[List.getElem_append_right (Nat.le_refl _)];simpa[hl]using hx
section
variable {H:Type} {enc:TypeId × Value→H} {w:World} {held:Bool} {a:Option Addr} {l c:Nat} {d:DataW H} {pl:List MemPlace}
end
end Go.Proofs.YtdagdllomphidaaGreatDoor.ib
namespace Go.Proofs.YtdagdllomphidaaGreatDoor.ib
open _root_.Go.Proofs.Tryz Go Go.RowKit
def qf (w:World)(g:Nat)(t:TypeId)(cs:Array Value):Prop:=w.heap[g]?=some (.cells cs t (0,0))
section
variable {w w':World} {g:Nat} {t:TypeId} {cs:Array Value}
theorem qf.lt(h:qf w g t cs):g<w.heap.size:=by
 unfold qf at h;exact(Array.getElem?_eq_some_iff.1 h).1
theorem qf.cell(h:qf w g t cs)(i:Nat):w.cell? ⟨g,i,none⟩=cs[i]? :=cell_of_row w g i cs t (0,0) h
theorem qf.frozen(h:qf w g t cs)(i:Nat):w.frozen? ⟨g,i,none⟩=false:=by
 unfold qf at h;simp[World.frozen?,h]
theorem qf.new(w:World)(t:TypeId)(cs:Array Value):qf (w.alloc (.cells cs t)) w.heap.size t cs:=heap_alloc_new w _
theorem qf.of_block(h:qf w g t cs)(hb:w'.heap[g]?=w.heap[g]?):qf w' g t cs:=hb.trans h
theorem qf.below(h:qf w g t cs)(hb:Below w.heap.size w w'):qf w' g t cs:=h.of_block (hb.block _ h.lt)
theorem qf.qo(h:qf w g t cs)(i:Nat)(u:Value):qf (w.setCell ⟨g,i,none⟩ u) g t (cs.setIfInBounds i u):=heap_setCell_same w g i cs t u h
end
structure qx(S:Nat→Prop)(w w':World):Prop where
 os:w'.os=w.os
 tape:w'.tape=w.tape
 output:w'.output=w.output
 size:w.heap.size≤w'.heap.size
 block:∀k,k<w.heap.size→¬ S k→w'.heap[k]?=w.heap[k]?
section
variable {S S':Nat→Prop} {a b c w w':World}
theorem qx.refl(S:Nat→Prop)(w:World):qx S w w:=⟨rfl,rfl,rfl,Nat.le_refl _,fun _ _ _=>rfl⟩
theorem qx.trans(h:qx S a b)(k:qx S' b c)(hs:∀i,S' i→S i∨a.heap.size≤i):qx S a c :=
 ⟨k.os.trans h.os,k.tape.trans h.tape,k.output.trans h.output,Nat.le_trans h.size k.size,fun i hi hn=>by
  refine(k.block i (Nat.lt_of_lt_of_le hi h.size) (fun e=>?_)).trans (h.block i hi hn);rcases hs i e with h1|h1
  ·exact hn h1
  ·omega⟩
theorem qx.mono(h:qx S w w')(hs:∀i,S i→S' i):qx S' w w':=⟨h.os,h.tape,h.output,h.size,fun k hk hn=>h.block k hk (fun e=>hn (hs k e))⟩
theorem qx.of_below(h:Below w.heap.size w w'):qx S w w':=⟨h.os,h.tape,h.output,h.size,fun k hk _=>h.block k hk⟩
theorem qx.drew(h:qx S a w):qx S a w.drew:=⟨h.os,h.tape,h.output,h.size,h.block⟩
theorem qx.drewN(h:qx S a w)(n:Nat):qx S a (w.drewN n):=⟨h.os,h.tape,h.output,h.size,h.block⟩
theorem qx.alloc(h:qx S a w)(o:Obj):qx S a (w.alloc o) :=
 h.trans (S':=fun _=>False) ⟨rfl,rfl,rfl,by simp,fun k hk _=>Below.heap_alloc _ _ _ hk⟩ (fun _ e=>e.elim)
theorem qx.setCell(h:qx S a w)(p:Addr)(u:Value)(hp:S p.block∨a.heap.size≤p.block):qx S a (w.setCell p u) :=
 h.trans (S':=fun k=>k=p.block) ⟨rfl,rfl,rfl,by simp[World.setCell],fun k _ hn=>Below.heap_setCell _ _ _ _ hn⟩ (fun i e=>by rw[e];exact hp)
theorem qx.below{B:Nat}(h:qx S a w)(hs:∀i,S i→B≤i)(hB:B≤a.heap.size):Below B a w :=
 ⟨h.os,h.tape,h.output,h.size,fun k hk=>h.block k (by omega) (fun e=>by have:=hs k e;omega)⟩
end
end Go.Proofs.YtdagdllomphidaaGreatDoor.ib
namespace Go.Proofs.YtdagdllomphidaaGreatDoor.ib
open _root_.Go.Proofs.Tryz Go Go.RowKit
def qh (cs:List Int):Array Value:=(cs.map (Value.int .i64)).toArray
theorem kY (cs:List Int)(i:Nat)(h:i<cs.length):(qh cs)[i]?=some (.int .i64 cs[i]):=by simp[qh,h]
theorem km (cs:List Int):(qh cs).size=cs.length:=by simp[qh]
theorem nr (cs:List Int)(i:Nat)(v:Int):(qh cs).setIfInBounds i (.int .i64 v)=qh (cs.set i v):=by
 unfold qh;rw[List.setIfInBounds_toArray,List.map_set]
theorem qeo(n:Nat):madeCells #[.int .i64 0] n=qh (List.replicate n 0):=by
 apply Array.ext
 ·simp[size_madeCells,qh]
 ·intro j h1 h2;have e:(qh (List.replicate n 0))[j]?=some (.int .i64 0):=by
   have hj:j<n:=by simpa[qh]using h2
   rw[kY _ _ (by simpa using hj),List.getElem_replicate]
  rw[Array.getElem?_eq_getElem h2]at e;rw[Option.some.inj e];simp[madeCells,Nat.mod_one]
theorem qf.nums{w:World}{g:Nat}{cs:List Int}(h:qf w g 3 (qh cs))(hz:∀z∈cs,qC z):qJ w (some ⟨g,0,none⟩) cs:=fun i hi =>
 ⟨g,0,rfl,h.lt,by rw[Nat.zero_add,h.cell i];exact kY cs i hi,hz _ (List.getElem_mem hi)⟩
theorem df (W:World)(zs:List Int)(hz:∀z∈zs,qC z):qJ (W.alloc (.cells (qh zs) 3)) (some ⟨W.heap.size,0,none⟩) zs:=qf.nums (qf.new W 3 (qh zs)) hz
theorem sj (n:Int)(h0:0≤n)(h:n*8≤140737488355328)(W:World):(Instr.makeSlice 57 (.int .i64 n) (.int .i64 n)).run prog W=.ok (.slice (some ⟨W.heap.size,0,none⟩) n.toNat n.toNat) (W.alloc (.cells (qh (List.replicate n.toNat 0)) 3)):=by
 obtain⟨i0,hi,hz0,hz1,hz2⟩:=info_parts wy;have hmk:=run_make (P:=prog) W 57 3 i0 (.int .i64 0) underlying57 hi hz0 .i64 .i64 n n h0 (Int.le_refl _) (by rw[hz2];omega) (by omega);rw[hz1]at hmk;rw[← qeo];simpa[Value.cells]using hmk
def dh (r:Bool)(w:World)(e:Ending)(w':World):Prop:=e=.returned (.bool r)∧Below w.heap.size w w'
def qh2 (r:Int)(w:World)(e:Ending)(w':World):Prop:=e=.returned (.int .i64 r)∧Below w.heap.size w w'
structure New(w w':World)(A:Option Addr)(r:List Int)(cc:Nat):Prop where
 ints:qJ w' A r
 free:∀i,i<r.length→∀b o,A=some ⟨b,o,none⟩→w'.frozen? ⟨b,o+i,none⟩=false
 new:∀b o,A=some ⟨b,o,none⟩→w.heap.size≤b∧b<w'.heap.size
 cap:r.length≤cc
 nil:A=none→r.length=0∧cc=0
structure yE(w:World)(A:Option Addr)(l:List Int)(c:Nat):Prop where
 ints:qJ w A l
 cap:l.length≤c
 nil:A=none→l.length=0∧c=0
theorem yE.below{w w':World}{A:Option Addr}{l:List Int}{c:Nat}(h:yE w A l c)(hb:Below w.heap.size w w'):yE w' A l c:=⟨h.ints.below hb,h.cap,h.nil⟩
theorem New.sl{w w':World}{A:Option Addr}{r:List Int}{cc:Nat}(h:New w w' A r cc):yE w' A r cc:=⟨h.ints,h.cap,h.nil⟩
theorem yE.none(w:World):yE w none [] 0:=⟨qJ.nil _ _,Nat.le_refl _,fun _=>⟨rfl,rfl⟩⟩
theorem qti(W:World)(zs:List Int)(hz:∀z∈zs,qC z):yE (W.alloc (.cells (qh zs) 3)) (some ⟨W.heap.size,0,Option.none⟩) zs zs.length:=⟨df W zs hz,Nat.le_refl _,fun h=>by cases h⟩
def qtj (r:List Int × Int)(w:World)(e:Ending)(w':World):Prop:=∃A cc,e=.returned (.tuple #[.slice A r.1.length cc,.int .i64 r.2])∧New w w' A r.1 cc∧Below w.heap.size w w'
theorem New.empty(w w':World):New w w' none [] 0:=⟨qJ.nil _ _,fun _ h=>absurd h (by simp),(fun _ _ h=>by cases h),Nat.le_refl _,fun _=>⟨rfl,rfl⟩⟩
theorem nt {c:Int}{w w':World}(h:Below w.heap.size w w'):qtj ([],c) w (.returned (.tuple #[.slice none 0 0,.int .i64 c])) w' :=
 ⟨none,0,rfl,New.empty _ _,h⟩
theorem zv.new{w w':World}{v:Value}{zs:List Int}(h:zv w' w.heap.size v zs)(hz:∀z∈zs,qC z):∃A cc,v=.slice A zs.length cc∧New w w' A zs cc:=by
 rcases h.2 with⟨rfl,h0⟩|⟨g,cap,cur,rfl,hg,hh,hcc,hm,hcs,xI⟩
 ·obtain rfl:zs=[]:=List.length_eq_zero_iff.1 h0;exact⟨none,0,rfl,New.empty _ _⟩
 ·obtain⟨A,cc,hv,hi,hb⟩:=h.view hz;simp only[Value.slice.injEq]at hv;obtain⟨rfl,_,rfl⟩:=hv;refine⟨_,_,rfl,hi,fun i _ b o hA=>?_,hb,by omega,fun h=>by cases h⟩;simp only[Option.some.injEq,Addr.mk.injEq,and_true]at hA;obtain⟨rfl,_⟩:=hA;simp[World.frozen?,hh]
theorem qep{w w':World}{v:Value}{zs:List Int}{c:Int}{r:List Int × Int}(ho:zv w' w.heap.size v zs)(hz:∀z∈zs,qC z)(hb:Below w.heap.size w w')(hr:r=(zs,c)) :
    qtj r w (.returned (.tuple #[v,.int .i64 c])) w':=by
 subst hr;obtain⟨A,cc,rfl,hn⟩:=ho.new hz;exact⟨A,cc,rfl,hn,hb⟩
end Go.Proofs.YtdagdllomphidaaGreatDoor.ib
namespace Go.Proofs.YtdagdllomphidaaGreatDoor
open _root_.Go.Proofs.Tryz Go Go.RowKit
theorem jE {P:Program}{id:Nat}{Q:Exit→Act→World→Prop}{a:Act}{w:World}{l:List Oper}(n:Nat)(hm:P.follows .mixedOrders=true)(hB:Region.lexTailB .any l.toArray n=true)
    (h:wpStill P l.toArray w.drew (fun a'=>wpList P l.toArray Q (l.drop n) a' w.drew) (l.take n) a):(Code.region id l.toArray true).wp P Q a w :=
 wp_region_still_tail n hm hB h
theorem kq {P:Program}{ops:Array Oper}{w:World}{Q:Act→Prop}{o:Oper}{rest:List Oper}{a:Act}{v:Value}(hg:o.guard=none)(h:(execOp a.eval o).run P w=.ok (.value v) w)
    (hn:wpStill P ops w Q rest (a.put o.dst v)):wpStill P ops w Q (o::rest) a:=by
 have hw:Region.wanted o (yielded ops a.tmps)=true:=by simp[Region.wanted,hg]
 unfold wpStill;rw[if_pos hw];unfold Oper.still;rw[h];exact⟨rfl,hn⟩
theorem qkT{P:Program}{o:Oper}{a:Act}{w w':World}{v:Value}{K:Act→World→Prop}{Q:Exit→Act→World→Prop}(h:(execOp a.eval o).run P w=.ok (.value v) w')(hn:K (a.put o.dst v) w'):o.wp P a w K Q:=by
 unfold Oper.wp;rw[h];exact hn
theorem qg {P:Program}{ops:Array Oper}{rest:List Oper}{o:Oper}{a:Act}{w w':World}{v:Value}{Q:Exit→Act→World→Prop}(hg:o.guard=none)(h:(execOp a.eval o).run P w=.ok (.value v) w')
    (hn:wpList P ops Q rest (a.put o.dst v) w'):wpList P ops Q (o::rest) a w :=
 wpList_plain hg fun _ hK=>qkT h (hK _ _ hn)
theorem wp_skip{P:Program}{o:Oper}{a:Act}{w w':World}{K:Act→World→Prop}{Q:Exit→Act→World→Prop}(h:(execOp a.eval o).run P w=.ok .skip w')(hn:K (a.put o.dst undef) w'):o.wp P a w K Q:=by
 unfold Oper.wp;rw[h];exact hn
theorem wpList_skip{P:Program}{ops:Array Oper}{rest:List Oper}{o:Oper}{a:Act}{w w':World}{Q:Exit→Act→World→Prop}(hg:o.guard=none)(h:(execOp a.eval o).run P w=.ok .skip w')
    (hn:wpList P ops Q rest (a.put o.dst undef) w'):wpList P ops Q (o::rest) a w :=
 wpList_plain hg fun _ hK=>wp_skip h (hK _ _ hn)
end Go.Proofs.YtdagdllomphidaaGreatDoor
namespace Go.Proofs.YtdagdllomphidaaGreatDoor.ib
open _root_.Go.Proofs.Tryz Go Go.RowKit
abbrev Bt:=List UInt8
def zz:Bt:=List.replicate 32 0
def rep (c:UInt8)(n:Nat):Bt:=List.replicate n c
def gG (c:UInt8):Bt:=if c.toNat≤250 then rep c 32 else rep c (c.toNat%31)
theorem qX:zz.length=32:=by simp[zz]
theorem qeq{c:UInt8}(h:c.toNat≤250):(gG c).length=32:=by unfold gG;rw[if_pos h];simp[rep]
theorem lr (z:Nat):madeCells #[Value.int .u8 0] z=(Lib.byteCells (List.replicate z 0)).toArray:=by
 apply Array.ext';apply List.ext_getElem?;intro j;by_cases hj:j<z <;> simp[madeCells,Lib.byteCells,hj,Nat.mod_one]
theorem qer(e:Int)(z:Nat)(w:World)(he:e=(z:Int))(hz:z≤1000000) :
    (Instr.makeSlice 118 (.int .i64 e) (.int .i64 e)).run prog w=.ok (.slice (some ⟨w.heap.size,0,none⟩) z z) (w.alloc (.cells (Lib.byteCells (List.replicate z 0)).toArray 5)):=by
 subst he;obtain⟨i0,hi,hz0,hz1,hz2⟩:=info_parts Tryz.ni;have hmk:=run_make (P:=prog) w 118 5 i0 (.int .u8 0) underlying118 hi hz0 .i64 .i64 (z:Int) (z:Int) (by omega) (by omega) (by rw[hz2];omega) (by omega);rw[hz1]at hmk;rw[← lr];simpa[Value.cells]using hmk
theorem qbL{ρ:Operand→Value}{o:Oper}{w:World}(x y:Operand)(z:Nat)(ho:o.op=.makeSlice 118 x y)(hx:ρ x=.int .i64 (z:Int))(hy:ρ y=.int .i64 (z:Int))(hz:z≤1000000) :
    (execOp ρ o).run prog w=.ok (.value (.slice (some ⟨w.heap.size,0,none⟩) z z)) (w.alloc (.cells (Lib.byteCells (List.replicate z 0)).toArray 5)):=by
 have hr:=qer (z:Int) z w rfl hz;simp[execOp,ho,hx,hy,hr,Result.andThen]
theorem wA (P:Bt)(b k:Nat)(t:TypeId)(w:World)(hk:P.length=k)(h:w.heap[b]?=some (.cells (Lib.byteCells P).toArray t (0,0))) :
    (convert 118 9 (.slice (some ⟨b,0,none⟩) k k)).run prog w=.ok (.string (str P)) w:=by
 subst hk;refine run_convert_bytes_back (P:=prog) w 118 9 5 ⟨b,0,none⟩ P.length P underlying118 underlying5 underlying9 ?_;intro j hj;rw[addr_add,Nat.zero_add,cell_of_row w b j _ _ _ h];simp[Lib.byteCells,hj]
theorem qh3(P:Bt)(cs:Array Value)(b cap:Nat)(t:TypeId)(w:World)(h:w.heap[b]?=some (.cells cs t (0,0)))(hc:∀(j:Nat) (u:Value),(Lib.byteCells P)[j]?=some u→cs[j]?=some u) :
    (convert 118 9 (.slice (some ⟨b,0,none⟩) P.length cap)).run prog w=.ok (.string (str P)) w:=by
 refine run_convert_bytes_back (P:=prog) w 118 9 5 ⟨b,0,none⟩ cap P underlying118 underlying5 underlying9 ?_;intro j hj;rw[addr_add,Nat.zero_add,cell_of_row w b j _ _ _ h];exact hc j _ (by simp[Lib.byteCells,hj])
def okS (v:Bt)(w:World)(e:Ending)(w':World):Prop:=e=.returned (.string (str v))∧Below w.heap.size w w'
def vK (c:UInt8)(k:Nat):Array Value:=(Lib.byteCells (List.replicate k c++List.replicate (32-k) 0)).toArray
theorem qes(c:UInt8):vK c 0=(Lib.byteCells (List.replicate 32 0)).toArray:=rfl
theorem qet(c:UInt8)(k:Nat)(h:k≤32):(vK c k).size=32:=by simp[vK,Lib.byteCells];omega
theorem qh4(c:UInt8)(k:Nat)(h:k<32):(vK c k).setIfInBounds k (.int .u8 (c.toNat:Int))=vK c (k+1):=by
 unfold vK Lib.byteCells;simp only[List.setIfInBounds_toArray,List.map_append,List.map_replicate];rw[List.set_append_right _ _ (by simp)]
 congr 1
 rw[show 32-k=(32-(k+1))+1 by omega,List.replicate_succ,List.replicate_succ'];simp
theorem br (c:UInt8)(n:Nat):(rep c n).length=n:=by simp[rep]
theorem qeu(c:UInt8):vK c 32=(Lib.byteCells (rep c 32)).toArray:=by simp[vK,rep]
def yS (x:Int):Prop:=-9223372036854775808≤x∧x≤9223372036854775807
def TxL (w:World)(A:Option Addr)(ts:List Bt):Prop :=
 ∀i (h:i<ts.length),∃b o,A=some ⟨b,o,none⟩∧b<w.heap.size∧w.cell? ⟨b,o+i,none⟩=some (.string (str ts[i]))
theorem TxL.kept{w w':World}{A:Option Addr}{ts:List Bt}(h:TxL w A ts)(hs:w.heap.size≤w'.heap.size)(hk:∀b o,A=some ⟨b,o,none⟩→w'.heap[b]?=w.heap[b]?):TxL w' A ts:=by
 intro i hi;obtain⟨b,o,h1,h2,h3⟩:=h i hi;exact⟨b,o,h1,Nat.lt_of_lt_of_le h2 hs,by rw[World.cell?_of_block (a:=⟨b,o+i,none⟩) (hk b o h1)];exact h3⟩
theorem TxL.below{w w':World}{A:Option Addr}{ts:List Bt}(h:TxL w A ts)(hb:Below w.heap.size w w'):TxL w' A ts:=by
 intro i hi;obtain⟨b,o,h1,h2,h3⟩:=h i hi;exact⟨b,o,h1,Nat.lt_of_lt_of_le h2 hb.size,by rw[hb.cell (p:=⟨b,o+i,none⟩) h2];exact h3⟩
def ui (w w':World)(A:Option Addr):Prop:=∀b o,A=some ⟨b,o,none⟩→w.heap.size≤b∧b<w'.heap.size
theorem ui.none(w w':World):ui w w' none:=fun _ _ h=>by cases h
end Go.Proofs.YtdagdllomphidaaGreatDoor.ib
namespace Go.Proofs.YtdagdllomphidaaGreatDoor.mt
open _root_.Go.Proofs.Tryz Go Go.RowKit ib wi
def jF (w:World)(A:Option Addr)(xs:List Sp):Prop :=
 ∀i (h:i<xs.length),∃b o B c,A=some ⟨b,o,none⟩∧b<w.heap.size∧w.cell? ⟨b,o+i*4,none⟩=some (.int .u64 (xs[i].g.1:Int))∧w.cell? ⟨b,o+i*4+1,none⟩=some (.int .u64 (xs[i].g.2:Int)) ∧
  w.cell? ⟨b,o+i*4+2,none⟩=some (.slice B xs[i].ql.length c)∧w.cell? ⟨b,o+i*4+3,none⟩=some (.bool xs[i].hid)∧yE w B xs[i].ql c∧zZ xs[i].g
theorem jF.below{w w':World}{A:Option Addr}{xs:List Sp}(h:jF w A xs)(hb:Below w.heap.size w w'):jF w' A xs:=by
 intro i hi;obtain⟨b,o,B,c,h1,h2,h3,h4,h5,h6,h7,h8⟩:=h i hi;exact⟨b,o,B,c,h1,Nat.lt_of_lt_of_le h2 hb.size,by rw[hb.cell (p:=⟨b,o+i*4,none⟩) h2];exact h3,by rw[hb.cell (p:=⟨b,o+i*4+1,none⟩) h2];exact h4,by rw[hb.cell (p:=⟨b,o+i*4+2,none⟩) h2];exact h5,by rw[hb.cell (p:=⟨b,o+i*4+3,none⟩) h2];exact h6,h7.below hb,h8⟩
theorem jF.nil(w:World)(A:Option Addr):jF w A []:=fun i h=>absurd h (by simp)
theorem jF.fA{w:World}{A:Option Addr}{xs:List Sp}(h:jF w A xs):∀s∈xs,zZ s.g:=by
 intro s hs;obtain⟨i,hi,rfl⟩:=List.getElem_of_mem hs;obtain⟨_,_,_,_,_,_,_,_,_,_,_,h8⟩:=h i hi;exact h8
def zj (A0 A1 A2:Option Addr)(c0 c1 c2:Nat)(m:Mt):Array Value:=#[.slice A0 m.live.length c0,.slice A1 m.qa.length c1,.int .u64 (m.tok.base.1:Int),.int .u64 (m.tok.base.2:Int),.int .u64 (m.tok.target.1:Int),.int .u64 (m.tok.target.2:Int),.int .i64 m.tok.next,.int .i64 m.tok.all,.slice A2 m.tok.ql.length c2]
structure MtL(w:World)(A0 A1 A2:Option Addr)(c0 c1 c2:Nat)(m:Mt):Prop where
 live:yE w A0 m.live c0
 qa:jF w A1 m.qa
 room:m.qa.length≤c1∧(A1=none→m.qa.length=0∧c1=0)
 ql:yE w A2 m.tok.ql c2
 base:zZ m.tok.base
 target:zZ m.tok.target
 next:qC m.tok.next
 all:qC m.tok.all
theorem MtL.below{w w':World}{A0 A1 A2:Option Addr}{c0 c1 c2:Nat}{m:Mt}(h:MtL w A0 A1 A2 c0 c1 c2 m)(hb:Below w.heap.size w w'):MtL w' A0 A1 A2 c0 c1 c2 m :=
 ⟨h.live.below hb,h.qa.below hb,h.room,h.ql.below hb,h.base,h.target,h.next,h.all⟩
theorem MtL.mB{w:World}{A0 A1 A2:Option Addr}{c0 c1 c2:Nat}{m:Mt}(h:MtL w A0 A1 A2 c0 c1 c2 m):mB m:=⟨h.qa.fA,h.base,h.target⟩
structure mtS(m:Mt):Prop where
 live:m.live.length≤1000
 qa:m.qa.length≤1000
 uj:∀s∈m.qa,s.ql.length≤1000
 ql:m.tok.ql.length≤1000
def qag (w:World)(v:Value)(m:Mt):Prop:=∃A0 A1 A2 c0 c1 c2,v=.agg (zj A0 A1 A2 c0 c1 c2 m)∧MtL w A0 A1 A2 c0 c1 c2 m
theorem qag.below{w w':World}{v:Value}{m:Mt}(h:qag w v m)(hb:Below w.heap.size w w'):qag w' v m:=by
 obtain⟨A0,A1,A2,c0,c1,c2,h1,h2⟩:=h;exact⟨A0,A1,A2,c0,c1,c2,h1,h2.below hb⟩
theorem qag.mB{w:World}{v:Value}{m:Mt}(h:qag w v m):mB m:=by
 obtain⟨A0,A1,A2,c0,c1,c2,h1,h2⟩:=h;exact h2.mB
def qxa (r:List UInt8 × Int)(w:World)(e:Ending)(w':World):Prop:=e=.returned (.tuple #[.string (str r.1),.int .i64 r.2])∧Below w.heap.size w w'
end Go.Proofs.YtdagdllomphidaaGreatDoor.mt
namespace Go.Proofs.YtdagdllomphidaaGreatDoor.mt
open _root_.Go.Proofs.Tryz Go Go.RowKit ib
@[go_sem] theorem qr9 (a b c d:Int) (w:World):(Op.equalIn 10000 55 (.agg #[.int .u64 a,.int .u64 b]) (.agg #[.int .u64 c,.int .u64 d])).run prog w=.ok (a == c&&b == d) w:=by
 have u3:=underlying35;have a3:=isAgg35;have z3:=sizeOf35;rw[show(10000:Nat)=9999+1 from rfl,run_equalIn_agg w 9999 55 _ _ (by kernel_rfl) (by kernel_rfl)];simp only[Program.fieldsOf,underlying55];go_simp;by_cases h1:a=c <;> by_cases h2:b=d <;> simp[h1,h2]
def gv (g:Gd):Value:=.agg #[.int .u64 (g.1:Int),.int .u64 (g.2:Int)]
end Go.Proofs.YtdagdllomphidaaGreatDoor.mt
namespace Go.Proofs.YtdagdllomphidaaGreatDoor.wi
open _root_.Go.Proofs.Tryz Go.RowKit
theorem bn (s:ByteArray)(k:Nat):bl (s.extract k s.size)=(bl s).drop k:=by
 obtain⟨⟨l⟩⟩:=s;simp only[bl,ByteArray.size];simp;exact List.take_of_length_le (by simp)
end Go.Proofs.YtdagdllomphidaaGreatDoor.wi
namespace Go.Proofs.YtdagdllomphidaaGreatDoor.mt
open _root_.Go.Proofs.Tryz Go Go.RowKit ib wi
def Tc (c:Nat)(j:Nat):Prop:=j=c
theorem vL {w w':World}{c:Nat}(h:w.grownBy w' (some c)):qx (Tc c) w w':=⟨h.os,h.tape,h.output,h.size,fun k hk hn=>h.block k hk (fun e=>hn (by simpa[Tc]using e))⟩
end Go.Proofs.YtdagdllomphidaaGreatDoor.mt
namespace Go.Proofs.YtdagdllomphidaaGreatDoor.ib
open _root_.Go.Proofs.Tryz Go Go.RowKit
theorem uk {w:World}{a b:Nat}{t u:TypeId}{x y:Array Value}(h:qf w a t x)(k:qf w b u y)(hn:t≠u):a≠b:=by
 rintro rfl;unfold qf at h k;rw[h]at k;simp only[Option.some.injEq,Obj.cells.injEq]at k;exact hn k.2.1
theorem qkV{w:World}{base e size n a:Nat}{v:Value}{xs:List Value}{t:TypeId}{x:Array Value}(h:w.ownsRow base e size v n xs)(k:qf w a t x)(hn:t≠e):∀j,v.ownBlock=some j→j≠a:=by
 intro j hj;rcases h.2 with⟨rfl,_⟩|⟨g,cap,cur,rfl,_,hg,_⟩
 ·cases hj
 ·simp[Value.ownBlock]at hj;subst hj;exact(uk k hg hn).symm
theorem zP {w w':World}{base e size n:Nat}{v:Value}{zs:List Value}(h:w.ownsRow base e size v n zs)(hb:∀k,v.ownBlock=some k→w'.heap[k]?=w.heap[k]?):w'.ownsRow base e size v n zs:=by
 refine⟨h.1,?_⟩;rcases h.2 with h2|⟨g',cap,cur,h1,h2,h3,h4⟩
 ·exact .inl h2
 ·refine .inr ⟨g',cap,cur,h1,h2,(hb g' ?_).trans h3,h4⟩;rw[h1];rfl
theorem qkW{w:World}{B B' e size n:Nat}{v:Value}{zs:List Value}(h:w.ownsRow B e size v n zs)(hB:B'≤B):w.ownsRow B' e size v n zs:=by
 refine⟨h.1,?_⟩;rcases h.2 with h2|⟨g',cap,cur,h1,h2,h3⟩
 ·exact .inl h2
 ·exact .inr ⟨g',cap,cur,h1,Nat.le_trans hB h2,h3⟩
theorem yT {w:World}{base e size n:Nat}{v:Value}{xs:List Value}(h:w.ownsRow base e size v n xs):∃A c,v=.slice A n c:=by
 rcases h.2 with⟨rfl,rfl⟩|⟨g,cap,cur,rfl,_⟩
 ·exact⟨none,0,rfl⟩
 ·exact⟨_,cap,rfl⟩
theorem qz (w:World)(g i:Nat)(u:Value)(k:Nat)(h:k≠g):(w.setCell ⟨g,i,none⟩ u).heap[k]?=w.heap[k]? :=Below.heap_setCell _ _ _ _ h
def Kp (r:TypeId)(w w':World):Prop:=∀j t cs,t≠r→qf w j t cs→qf w' j t cs
theorem Kp.refl(r:TypeId)(w:World):Kp r w w:=fun _ _ _ _ h=>h
theorem Kp.trans{r:TypeId}{a b c:World}(h:Kp r a b)(k:Kp r b c):Kp r a c:=fun j t cs hn hb=>k j t cs hn (h j t cs hn hb)
theorem Kp.of_below{r:TypeId}{w w':World}(h:Below w.heap.size w w'):Kp r w w':=fun _ _ _ _ hb=>hb.below h
theorem Kp.nu{r:TypeId}{w w':World}{c:Nat}{x:Array Value}(h:qx (fun j=>j=c) w w')(hc:qf w c r x):Kp r w w':=fun j t cs hn hb =>
 hb.of_block (h.block j hb.lt (uk hb hc hn))
theorem Kp.dm{r:TypeId}{w:World}{g:Nat}{x:Array Value}(i:Nat)(u:Value)(hg:qf w g r x):Kp r w (w.setCell ⟨g,i,none⟩ u):=fun j t cs hn hb =>
 hb.of_block (qz _ _ _ _ _ (uk hb hg hn))
theorem Kp.row{r:TypeId}{w w':World}{base e size n:Nat}{v:Value}{zs:List Value}(h:Kp r w w')(hn:e≠r)(ho:w.ownsRow base e size v n zs):w'.ownsRow base e size v n zs:=by
 refine⟨ho.1,?_⟩;rcases ho.2 with h2|⟨g',cap,cur,h1,h2,h3,h4⟩
 ·exact .inl h2
 ·exact .inr ⟨g',cap,cur,h1,h2,h g' e cur hn h3,h4⟩
end Go.Proofs.YtdagdllomphidaaGreatDoor.ib
namespace Go.Proofs.YtdagdllomphidaaGreatDoor.mt
open _root_.Go.Proofs.Tryz Go Go.RowKit ib wi
theorem qah:(prog.info? 145).map (fun i=>(i.zero,i.size,i.bytes))=some (some (.agg #[.int .u64 0,.int .u64 0,.slice none 0 0,.bool false]),4,48):=by kernel_rfl
abbrev cj:=Sp × Value
def ck (x:cj):List Value:=[.int .u64 (x.1.g.1:Int),.int .u64 (x.1.g.2:Int),x.2,.bool x.1.hid]
def qY:List cj→List Value
 | []=>[]
 | x::r=>ck x++qY r
theorem cP:∀(l r:List cj),qY (l++r)=qY l++qY r
 | [],_=>rfl
 | x::l,r=>by
  show ck x++qY (l++r)=ck x++qY l++qY r;rw[cP l r,List.append_assoc]
theorem qh5(x:cj):qY [x]=ck x:=by simp[qY]
theorem yh:∀l:List cj,(qY l).length=l.length*4
 | []=>rfl
 | x::l=>by simp[qY,ck,yh l];omega
theorem xw:∀(l:List cj) (i:Nat) (h:i<l.length) (j:Nat),j<4→(qY l)[i*4+j]?=(ck l[i])[j]?
 | x::l,0,_,j,hj=>by
  show(ck x++qY l)[0*4+j]?=_;rw[List.getElem?_append_left (by simp[ck];omega),Nat.zero_mul,Nat.zero_add];rfl
 | x::l,i+1,h,j,hj=>by
  have:=xw l i (by simpa using h) j hj;show(ck x++qY l)[(i+1)*4+j]?=_;rw[List.getElem?_append_right (by simp[ck];omega)];rw[show(i+1)*4+j-(ck x).length=i*4+j from by simp[ck];omega];exact this
theorem qkX(w:World)(B:Nat):zv w B (.slice none 0 0) []:=World.ownsRow_nil _ _ _ _
def gH (w:World)(B:Nat)(v:Value)(xs:List cj):Prop:=w.ownsRow B 145 4 v xs.length (qY xs)∧∀x∈xs,zv w B x.2 x.1.ql
theorem gH.nil(w:World)(B:Nat):gH w B (.slice none 0 0) []:=⟨World.ownsRow_nil _ _ _ _,fun x hx=>absurd hx (by simp)⟩
section
variable {w w':World} {B:Nat} {v:Value} {xs:List cj} {r:TypeId}
theorem gH.kp(h:gH w B v xs)(hk:Kp r w w')(h1:145≠r)(h2:3≠r):gH w' B v xs :=
 ⟨hk.row h1 h.1,fun x hx=>hk.row h2 (h.2 x hx)⟩
theorem gH.below(h:gH w B v xs)(hb:Below w.heap.size w w'):gH w' B v xs:=h.kp (r:=1000000) (Kp.of_below hb) (by decide) (by decide)
theorem aQ {zs:List Int}(h:zv w B v zs)(hk:Kp r w w')(h1:3≠r):zv w' B v zs:=hk.row h1 h
theorem qgx{zs:List Int}(h:zv w B v zs)(hz:∀z∈zs,qC z):∃A c,v=.slice A zs.length c∧yE w A zs c:=by
 rcases h.2 with⟨rfl,h0⟩|⟨g,cap,cur,rfl,hg,hh,hcc,hm,hcs,xI⟩
 ·obtain rfl:zs=[]:=List.length_eq_zero_iff.1 h0;exact⟨none,0,rfl,yE.none _⟩
 ·obtain⟨A,cc,hv,hi,hb⟩:=zv.view h hz;simp only[Value.slice.injEq]at hv;obtain⟨rfl,_,rfl⟩:=hv;exact⟨_,_,rfl,hi,by omega,fun h=>by cases h⟩
theorem gH.view(h:gH w B v xs)(hz:∀x∈xs,∀z∈x.1.ql,qC z)(hg:∀x∈xs,zZ x.1.g) :
    ∃A c,v=.slice A (xs.map (·.1)).length c∧jF w A (xs.map (·.1))∧((xs.map (·.1)).length≤c∧(A=none→(xs.map (·.1)).length=0∧c=0)):=by
 obtain⟨h1,h2⟩:=h;rcases h1.2 with⟨rfl,h0⟩|⟨g,cap,cur,rfl,sq,hh,hcc,hm,hcs,xI⟩
 ·obtain rfl:xs=[]:=List.length_eq_zero_iff.1 h0;exact⟨none,0,rfl,jF.nil _ _,Nat.le_refl _,fun _=>⟨rfl,rfl⟩⟩
 ·refine⟨some ⟨g,0,none⟩,cap,by simp,fun i hi=>?_,by simpa using hcc,fun h=>by cases h⟩;have hix:i<xs.length:=by simpa using hi
  have gF:g<w.heap.size:=(Array.getElem?_eq_some_iff.1 hh).1;have key:∀(j:Nat) (u:Value),(qY xs)[j]?=some u→w.cell? ⟨g,j,none⟩=some u:=by
   intro j u hu;rw[cell_of_row w g j cur 145 (0,0) hh];rw[← xI,List.getElem?_take]at hu;split at hu
   ·simpa using hu
   ·cases hu
  obtain⟨A',c',hv,wu⟩:=qgx (h2 _ (List.getElem_mem hix)) (hz _ (List.getElem_mem hix));have e:(xs.map (·.1))[i]=xs[i].1:=by simp
  rw[e];refine⟨g,0,A',c',rfl,gF,?_,?_,?_,?_,wu,hg _ (List.getElem_mem hix)⟩
  ·rw[Nat.zero_add];have:=key (i*4+0) _ (xw xs i hix 0 (by omega));exact this
  ·rw[Nat.zero_add];exact key (i*4+1) _ (xw xs i hix 1 (by omega))
  ·rw[Nat.zero_add];have:=key (i*4+2) _ (xw xs i hix 2 (by omega));rw[← hv];exact this
  ·rw[Nat.zero_add];exact key (i*4+3) _ (xw xs i hix 3 (by omega))
end
end Go.Proofs.YtdagdllomphidaaGreatDoor.mt
namespace Go.Proofs.YtdagdllomphidaaGreatDoor.mt.pg
open _root_.Go.Proofs.Tryz Go Go.RowKit ib wi im mt
def PS (w:World)(c:Nat)(s:St):Prop:=match s with
 | none=>∃l,zi c l true w
 | some l=>zi c l false w
theorem PS.blk{w:World}{c:Nat}{s:St}(h:PS w c s):∃x,qf w c 215 x:=by
 unfold PS at h;split at h
 ·obtain⟨l,g,o,cap,h1,_⟩:=h;exact⟨_,h1⟩
 ·obtain⟨g,o,cap,h1,_⟩:=h;exact⟨_,h1⟩
theorem PS.lt{w:World}{c:Nat}{s:St}(h:PS w c s):c<w.heap.size:=by
 obtain⟨x,hx⟩:=h.blk;exact hx.lt
theorem PS.below{w w':World}{c:Nat}{s:St}(h:PS w c s)(hb:Below w.heap.size w w'):PS w' c s:=by
 unfold PS at h ⊢;split at h
 ·obtain⟨l,h⟩:=h;exact⟨l,h.below hb⟩
 ·exact h.below hb
theorem qkY{w:World}{c x:Nat}{l:List UInt8}{bad:Bool}{t:TypeId}{cs:Array Value}(h:zi c l bad w)(hx:qf w x t cs)(h1:t≠215)(h2:t≠5)(k:Nat)(v:Value):zi c l bad (w.setCell ⟨x,k,none⟩ v):=by
 obtain⟨g,o,cap,hb,hr,h3,h4⟩:=h;have hc:c≠x:=fun e=>by
  subst e;unfold qf at hx;rw[hb]at hx;simp only[Option.some.injEq,Obj.cells.injEq]at hx;exact h1 hx.2.1.symm
 have hg:g≠x:=fun e=>by
  subst e;obtain⟨cs',fr,hg,_⟩:=hr;unfold qf at hx;rw[hg]at hx;simp only[Option.some.injEq,Obj.cells.injEq]at hx;exact h2 hx.2.1.symm
 exact⟨g,o,cap,(Below.heap_setCell _ _ _ _ hc).trans hb,hr.keep (Below.heap_setCell _ _ _ _ hg),h3,h4⟩
theorem PS.set{w:World}{c x:Nat}{s:St}{t:TypeId}{cs:Array Value}(h:PS w c s)(hx:qf w x t cs)(h1:t≠215)(h2:t≠5)(k:Nat)(v:Value):PS (w.setCell ⟨x,k,none⟩ v) c s:=by
 unfold PS at h ⊢;split at h
 ·obtain⟨l,h⟩:=h;exact⟨l,qkY h hx h1 h2 k v⟩
 ·exact qkY h hx h1 h2 k v
structure Rd(w:World)(c:Nat)(s:St)(w':World):Prop where
 but:qx (Tc c) w w'
 ps:PS w' c s
theorem Rd.kp{w w':World}{c:Nat}{s s':St}(h:PS w c s)(hr:Rd w c s' w'):Kp 215 w w':=by
 obtain⟨x,hx⟩:=h.blk;exact Kp.nu hr.but hx
theorem Rd.trans{a w w':World}{c:Nat}{s s':St}(h:Rd a c s w)(k:Rd w c s' w'):Rd a c s' w':=⟨h.but.trans k.but fun i hi=>.inl hi,k.ps⟩
theorem Rd.new{a w w':World}{c:Nat}{s:St}(h:Rd a c s w)(hb:Below w.heap.size w w'):Rd a c s w':=⟨h.but.trans (qx.of_below (S:=Tc c) hb) fun i hi=>.inl hi,h.ps.below hb⟩
theorem Rd.set{a w:World}{c x:Nat}{s:St}{t:TypeId}{cs:Array Value}(h:Rd a c s w)(hx:qf w x t cs)(hn:a.heap.size≤x)(h1:t≠215)(h2:t≠5)(k:Nat)(v:Value):Rd a c s (w.setCell ⟨x,k,none⟩ v) :=
 ⟨h.but.setCell _ _ (.inr hn),h.ps.set hx h1 h2 k v⟩
theorem Rd.blk{w w':World}{c x:Nat}{s:St}{t:TypeId}{cs:Array Value}(h:Rd w c s w')(hx:qf w x t cs)(hp:∃y,qf w c 215 y)(hn:t≠215):qf w' x t cs:=by
 obtain⟨y,hy⟩:=hp;exact hx.of_block (h.but.block _ hx.lt (uk hx hy hn))
def qtk (c:Nat)(s:St)(w:World)(e:Ending)(w':World):Prop:=e=.returned (.int .u64 ((yj s).1:Int))∧Rd w c (yj s).2 w'
theorem dn {w:World}{c:Nat}{s:St}(h:PS w c s):Calls prog 127 #[.pointer (some ⟨c,0,none⟩)] w (qtk c s w):=by
 unfold PS at h;split at h
 ·obtain⟨l,h1⟩:=h;refine(np c l w h1).mono ?_;rintro e w' ⟨rfl,rfl⟩;exact⟨rfl,qx.refl _ _,l,h1⟩
 ·rename_i l;refine(vJ c l w h).mono ?_;rintro e w' ⟨hg,⟨n,r,hn,rfl,hr⟩|⟨hn,rfl,m,hm⟩⟩
  ·have hq:yj (some l)=(n,some r):=by unfold yj;simp only[hn]
   unfold qtk;rw[hq];exact⟨rfl,vL hg,hr⟩
  ·have hq:yj (some l)=(0,none):=by unfold yj;simp only[hn]
   unfold qtk;rw[hq];exact⟨rfl,vL hg,m,hm⟩
def qxb (k c:Nat)(s:St)(w:World)(e:Ending)(w':World):Prop:=e=.returned (.int .i64 ((kF k s).1:Int))∧Rd w c (kF k s).2 w'
theorem dp {w:World}{c:Nat}{s:St}(h:PS w c s)(k:Nat)(K:Int)(hK:K=(k:Int))(hk:k≤2000):Calls prog 138 #[.pointer (some ⟨c,0,none⟩),.int .i64 K] w (qxb k c s w):=by
 subst hK;have HN:=QH (dn h);have hm:min ((yj s).1:Int) ((k:Int)+1)=((kF k s).1:Int):=by
  unfold kF;dsimp only;omega
 have hm2:(if ((k:Int)+1:Int)<((yj s).1:Int)then((k:Int)+1:Int)else((yj s).1:Int))=((kF k s).1:Int):=by
  unfold kF;dsimp only;split <;> omega
 have hsm:=fO k s;obtain⟨n,hn⟩:=QE ((yj s).1);have hl:=tZ s;rw[hn]at hm hm2 hl;have HNN:=QH hn;obtain⟨r,hr⟩:=QE ((kF k s).1);rw[hr]at hm hm2 hsm;have fB:=QH hr;clear hn hr h;go_enter func138,ntmps138;go_wp2_with fail;refine HN.out.mono ?_;rintro e W ⟨rfl,hq⟩;rw[HNN.out];have HQ:=QH hq;clear hq;go_wp2_with fail;go_ret;exact⟨by rw[fB.out];rfl,HQ.out⟩
abbrev ptr (b:Nat):Value:=.pointer (some ⟨b,0,none⟩)
theorem qoV{w:World}{rb c:Nat}{s:St}(h:PS w c s)(hr:qf w rb 161 #[ptr c]):Calls prog 141 #[ptr rb] w (qxb 1024 c s w):=by
 have HU:=QH (dp h 1024 1024 rfl (by omega));have c0:=hr.cell 0;simp only[List.getElem?_toArray,List.getElem?_cons_zero]at c0;have hlt:=hr.lt;clear h hr;go_enter func141,ntmps141;go_wp2_with fail;refine HU.out.mono ?_;rintro e W ⟨rfl,hq⟩;have HQ:=QH hq;clear hq c0;go_wp2_with fail;go_ret;exact⟨rfl,HQ.out⟩
theorem qkZ{l:List Int}{n k:Nat}(hl:l.length=k)(hk:k<n)(z:Int):(l++List.replicate (n-k) 0).set k z=(l++[z])++List.replicate (n-(k+1)) 0:=by
 rw[List.set_append_right _ _ (by omega),hl,Nat.sub_self,show n-k=(n-(k+1))+1 by omega,List.replicate_succ,List.set_cons_zero,List.append_assoc];rfl
def qrA (n c:Nat)(s:St)(w:World)(e:Ending)(w':World):Prop:=∃g,e=.returned (.slice (some ⟨g,0,none⟩) n n)∧w.heap.size≤g∧qf w' g 3 (qh (gC n s).1)∧Rd w c (gC n s).2 w'
def qxd (n c g:Nat)(s:St)(w:World)(i:Value)(wr:World):Prop :=
 ∃k:Nat,k≤n∧i=.int .i64 (k:Int)∧qf wr g 3 (qh ((gC k s).1++List.replicate (n-k) 0))∧Rd w c (gC k s).2 wr
theorem vM {w:World}{rb c:Nat}{s:St}(n:Nat)(hn:n≤1000)(h:PS w c s)(hr:qf w rb 161 #[ptr c]) :
    Calls prog 140 #[.int .i64 (n:Int),.func (.func 141) #[] #[ptr rb]] w (qrA n c s w):=by
 have hmk:∀W,(Instr.makeSlice 57 (.int .i64 (n:Int)) (.int .i64 (n:Int))).run prog W=.ok (.slice (some ⟨W.heap.size,0,none⟩) n n) (W.alloc (.cells (qh (List.replicate n 0)) 3)):=fun W=>by
  have:=sj (n:Int) (by omega) (by omega) W
  rwa [Int.toNat_natCast]at this
 have HP:=QH h;have HR:=QH hr;clear h hr;go_enter func140,ntmps140;go_wp2_with fail;have hb:=(Below.refl w.heap.size w).alloc (Nat.le_refl _) (.cells (qh (List.replicate n 0)) 3);have HG:=QH (qf.new w 3 (qh (List.replicate n 0)));have xz:Hid (Rd w c s (w.alloc (.cells (qh (List.replicate n 0)) 3))):=⟨qx.of_below hb,HP.out.below hb⟩;obtain⟨W0,hW0⟩:=QE (w.alloc (.cells (qh (List.replicate n 0)) 3));rw[hW0]at HG xz;try rw[hW0]
 clear hb hW0 hmk;obtain⟨g,hg⟩:=QE w.heap.size;have HGE:=QH (Nat.le_of_eq hg);rw[hg]at HG;try rw[hg]
 clear hg;go_loopw [6,11] (fun _ i wr=>qxd n c g s w i wr) (fun _ i _=>n-(intOf i).toNat);case atStart=>exact⟨0,Nat.zero_le _,rfl,by simpa[gC]using HG.out,xz.out⟩
 case round =>
  obtain⟨k,hk,rfl,hG,hR⟩:=hrel;have HGK:=QH hG;have HRK:=QH hR;clear hG hR;by_cases hlt:k<n
  ·have jD:(k:Int)<(n:Int):=by omega
   have HRB:=QH (HRK.out.blk HR.out HP.out.blk (by decide));go_wp2_with fail;refine(qoV HRK.out.ps HRB.out).mono ?_;rintro e W ⟨rfl,hq⟩;have gI:=kP k s;have kI:=QH (qbC k s);have hGW:=hq.blk HGK.out HRK.out.ps.blk (by decide);have HGW:=QH hGW;have HQ:=QH (HRK.out.trans hq);have f0:=hGW.frozen k;have hlg:=hGW.lt;obtain⟨u,hu⟩:∃u,W.cell? ⟨g,k,none⟩=some u:=by
    rw[hGW.cell k,kY _ k (by rw[List.length_append,gI,List.length_replicate];omega)];exact⟨_,rfl⟩
   have HFS:=QH (fun z=>qkZ (n:=n) gI hlt z);have aM:=QH gI;obtain⟨z,hz⟩:=QE ((kF 1024 (gC k s).2).1:Nat);rw[hz];have HZ:=QH hz;clear hq hGW gI hz HGK HRK HRB;go_wp2_with fail;go_roundw;case rel =>
    have bu:=HGW.out.qo k (.int .i64 (z:Int));rw[nr,HFS.out]at bu;have hRd:=HQ.out.set HGW.out HGE.out (by decide) (by decide) k (.int .i64 (z:Int));refine⟨k+1,by omega,by go_num,?_,?_⟩
    ·rw[kI.out,HZ.out];exact bu
    ·rw[kI.out];exact hRd
   case measure=>simp[intOf];omega
  ·have jD:¬ (k:Int)<(n:Int):=by omega
   obtain rfl:k=n:=by omega
   have hG:=HGK.out;rw[Nat.sub_self,List.replicate_zero,List.append_nil]at hG;have HG2:=QH hG;clear hG;go_wp2_with fail;go_ret;exact⟨g,rfl,HGE.out,HG2.out,HRK.out⟩
theorem um {w:World}{kb rb c b:Nat}{s:St}(hb:b≤100)(h:PS w c s)(hk:qf w kb 3 #[.int .i64 (b:Int)])(hr:qf w rb 161 #[ptr c]) :
    Calls prog 139 #[ptr kb,ptr rb] w (qrA b c s w):=by
 have HL:=QH (vM b (by omega) h hr);have c0:=hk.cell 0;simp only[List.getElem?_toArray,List.getElem?_cons_zero]at c0;have hlt:=hk.lt;clear h hr hk;go_enter func139,ntmps139;go_wp2_with fail;refine HL.out.mono ?_;rintro e W ⟨g,rfl,hq⟩;have HQ:=QH hq;clear hq c0;go_wp2_with fail;go_ret;exact⟨g,rfl,HQ.out⟩
def q3a (c:Nat)(s:St)(w:World)(e:Ending)(w':World):Prop:=e=.returned (gv (vq s).1)∧Rd w c (vq s).2 w'
theorem xj {w:World}{c:Nat}{s:St}(h:PS w c s):Calls prog 144 #[ptr c] w (q3a c s w):=by
 have hb0:=(Below.refl w.heap.size w).alloc (Nat.le_refl _) (.cells #[.int .u64 0,.int .u64 0] 55);have cm:Hid (Rd w c s (w.alloc (.cells #[.int .u64 0,.int .u64 0] 55))):=⟨qx.of_below hb0,h.below hb0⟩;have ym:=QH (qf.new w 55 #[.int .u64 0,.int .u64 0]);obtain⟨w0,hw0⟩:=QE (w.alloc (.cells #[.int .u64 0,.int .u64 0] 55));rw[hw0]at cm ym;clear h hb0;go_enter func144,ntmps144;go_wp2_with fail;try rw[hw0]
 clear hw0;refine(dn cm.out.ps).mono ?_;rintro e W1 ⟨rfl,hq1⟩;have fP:=QH (hq1.blk ym.out cm.out.ps.blk (by decide));have jz:=QH (cm.out.trans hq1);clear hq1 ym cm;obtain⟨x,hx⟩:=QE ((yj s).1:Nat);rw[hx];have HX:=QH hx;clear hx;go_wp2_with fail;refine(dn jz.out.ps).mono ?_;rintro e W2 ⟨rfl,hq2⟩;have ai:=QH (hq2.blk fP.out jz.out.ps.blk (by decide));have jA:=QH (jz.out.trans hq2);obtain⟨y,hy⟩:=QE ((yj (yj s).2).1:Nat);rw[hy];have HY:=QH hy;have q0:=ai.out.cell 0;have q1:=ai.out.cell 1;simp only[QA,QB,QC]at q0 q1;have f0:=ai.out.frozen 0;have f1:=ai.out.frozen 1;have hlA:=ai.out.lt;clear hy hq2 fP jz;go_wp2_with fail;have hA3:=ai.out.qo 0 (.int .u64 (x:Int));have bw:=QH (hA3.qo 1 (.int .u64 (y:Int)));have q0:=bw.out.cell 0;have q1:=bw.out.cell 1;simp at q0 q1;have HG:Hid (gv (vq s).1=.agg #[.int .u64 (x:Int),.int .u64 (y:Int)]):=by unfold Hid gv vq;dsimp only;rw[HX.out,HY.out]
 have fB:=QH ((jA.out.set ai.out (Nat.le_refl _) (by decide) (by decide) 0 (.int .u64 (x:Int))).set hA3 (Nat.le_refl _) (by decide) (by decide) 1 (.int .u64 (y:Int)));refine bodyPost_ret (v:=.agg #[.int .u64 (x:Int),.int .u64 (y:Int)]) (by simp[results,results144,go_sem,q0,q1]) rfl ?_;exact⟨by rw[HG.out],fB.out⟩
end Go.Proofs.YtdagdllomphidaaGreatDoor.mt.pg

/- Str, ImPure, WiPure, MtNsec, MtPure, MtMath, MgPure, WiShelf, ShBuilder, Info, WiPut, WiGrown, WiRead, WiNum, WiNumG, WiNumR, Ints, Blk, ICells, StillW, Dat, Lists, MtMem, MtEq, WiRefR0, WiRefN, WiRefG, WiRefQ, MtRd, OwnKit, MtSns, MgRd, MgList, MgEq. -/
import Derived.Below
import Derived.Lib.Hide
import Derived.Lib.Strings
import Derived.RowKit
import Derived.Lib.ItoaNum
import Derived.Shelf.Strconv.Itoa0
import Derived.Test.YtdagdllomphidaaGreatDoorProg
import Derived.Shelf.Strings.Builder1
import Derived.WalkKit
import Derived.WalkSpells
import Derived.WalkLawsBesides
import Derived.BigCall
import Derived.Lib.ConvBytes
import Derived.OpenShut
import Derived.Deep.Slices
import Derived.Deep.SlicePairs
import Derived.Deep.Fields
import Derived.ChangeSlices
import Derived.ChangeSame
import Derived.Maps.AppendAt
import Derived.OwnWalk
import Derived.Deep.Draws
import Derived.StillTailTactics
import Derived.LoopTactic
import Derived.Deep.WholeRow
import Derived.Deep.AppendSrc
import Derived.Carry
import Derived.Laws.StructEq
import Derived.Laws.Cover2
import Derived.KernelRfl
import Derived.Deep.QuietTactic
import Derived.BigQuiet
import Derived.Laws.AppendOwn
import Derived.Tactics
set_option linter.unusedVariables false
set_option linter.unusedSimpArgs false
set_option maxHeartbeats 30000000
set_option maxRecDepth 100000
namespace Go.Proofs.YtdagdllomphidaaGreatDoor
theorem QH {p : Prop} (h : p) : Go.RowKit.Hid p := h
theorem QA {α : Type _} {l : List α} {i : Nat} : l.toArray[i]? = l[i]? := List.getElem?_toArray
theorem QB {α : Type _} {a : α} {l : List α} : (a :: l)[0]? = some a := List.getElem?_cons_zero
theorem QC {α : Type _} {a : α} {l : List α} {i : Nat} : (a :: l)[i + 1]? = l[i]? := List.getElem?_cons_succ
theorem QE {α : Sort _} (a : α) : ∃ x, a = x := ⟨a, rfl⟩
end Go.Proofs.YtdagdllomphidaaGreatDoor
namespace Go.Proofs.YtdagdllomphidaaGreatDoor
open _root_.Go.Proofs.Tryz Go Go.RowKit
def str (l:List UInt8):ByteArray:=⟨l.toArray⟩
def bl (s:ByteArray):List UInt8:=s.data.toList
theorem zo (l:List UInt8):bl (str l)=l:=by simp[bl,str]
theorem eB (s:ByteArray):str (bl s)=s:=by obtain⟨⟨l⟩⟩:=s;rfl
theorem qO (l:List UInt8):(str l).size=l.length:=by simp[str,ByteArray.size]
theorem zq (s:ByteArray):(bl s).length=s.size:=by obtain⟨⟨l⟩⟩:=s;simp[bl,ByteArray.size]
theorem str_inj{l m:List UInt8}(h:str l=str m):l=m:=by
 have:=congrArg bl h
 rwa [zo,zo]at this
theorem dx (s:ByteArray):s.toList=bl s:=Lib.toList_data s
theorem ar (s:ByteArray)(a b:Nat):bl (s.extract a b)=((bl s).drop a).take (b-a):=Lib.extract_data s a b
theorem qmX(s:ByteArray)(k:Nat):bl (s.extract 0 k)=(bl s).take k:=by rw[ar];simp
theorem qe6(s:ByteArray)(k:Nat):bl (s.extract k s.size)=(bl s).drop k:=by
 rw[ar,List.take_of_length_le];rw[List.length_drop,zq];omega
theorem rz (s:ByteArray)(l:List UInt8):(s.toList == (str l).toList)=decide (bl s=l):=by
 rw[dx,dx,zo,Bool.eq_iff_iff];simp
theorem uh (k:Nat)(h:k<256):(UInt8.ofNat k).toNat=k:=by
 simp[UInt8.toNat_ofNat'];omega
theorem addr_add(b o j:Nat):(⟨b,o,none⟩:Addr).add j=⟨b,o+j,none⟩:=by
 unfold Addr.add;split
 ·subst_vars;rfl
 ·rfl
theorem q9 {w A B:World}(h:Below w.heap.size w A)(g:Below A.heap.size A B):Below w.heap.size w B:=h.trans (g.mono h.size)
theorem zv {w A:World}(h:Below w.heap.size w A)(o:Obj):Below w.heap.size w (A.alloc o):=h.alloc h.size o
def qcu (w:World)(e:Ending)(w':World):Prop:=e=.returned (.bool true)∧Below w.heap.size w w'
def qe7 (r:ByteArray)(w:World)(e:Ending)(w':World):Prop:=e=.returned (.string r)∧Below w.heap.size w w'
end Go.Proofs.YtdagdllomphidaaGreatDoor
namespace Go.Proofs.YtdagdllomphidaaGreatDoor.im
open _root_.Go.Proofs.Tryz Go Go.RowKit
def pl (l:List Int)(i:Nat):Int:=l.getD i 0
theorem bn {l:List Int}{i:Nat}(h:i<l.length):pl l i=l[i]:=by simp[pl,List.getD,h]
theorem eC {l:List Int}{i:Nat}(h:l.length≤i):pl l i=0:=by simp[pl,List.getD,h]
def wx (n z:Int):Bool:=decide (z≠0)&&(decide (z<193) || decide (n≤z))
def wQ (l:List Int)(i k:Nat):Bool:=(List.range k).any fun j=>decide (pl l i=pl l j)
def yj (l:List Int)(i:Nat):Bool:=(List.range i).any fun j=>decide (pl l j≠0)&&wQ l j j
def zD (l:List Int)(blocks n:Int):Int :=
 if blocks<1∨8<blocks∨(l.length:Int)≠blocks then 2 else if l.any (wx n)then 2 else if yj l l.length then 16 else 0
def qag (l:List Int)(k s:Int):List Int × Int:=if k<0∨(l.length:Int)≤k∨s<0 then([],2)else(l.set k.toNat s,0)
theorem au (l:List Int)(i:Nat):yj l (i+1)=(yj l i || (decide (pl l i≠0)&&wQ l i i)):=by
 unfold yj;rw[List.range_succ,List.any_append,List.any_cons,List.any_nil,Bool.or_false]
theorem qcv{l:List Int}{i j m:Nat}(hi:i<m)(hj:j<i)(h0:pl l i≠0)(h:pl l i=pl l j):yj l m=true:=by
 unfold yj wQ;rw[List.any_eq_true];refine⟨i,List.mem_range.2 hi,?_⟩;rw[decide_eq_true h0,Bool.true_and,List.any_eq_true];exact⟨j,List.mem_range.2 hj,decide_eq_true h⟩
theorem qiO{l:List Int}{k:Nat}(h:k<l.length)(p:Int→Bool):(l.take (k+1)).any p=((l.take k).any p || p l[k]):=by
 rw[List.take_succ_eq_append_getElem h,List.any_append,List.any_cons,List.any_nil,Bool.or_false]
theorem qsO{l:List Int}{k:Nat}(h:k<l.length){p:Int→Bool}(hp:p l[k]=true):l.any p=true :=
 List.any_eq_true.2 ⟨_,List.getElem_mem h,hp⟩
end Go.Proofs.YtdagdllomphidaaGreatDoor.im
namespace Go.Proofs.YtdagdllomphidaaGreatDoor.wi
open _root_.Go.Proofs.Tryz Go
def xi:Nat→Nat→List UInt8
 | 0,_=>[]
 | f+1,n=>if n=0 then[]else xi f (n/256)++[UInt8.ofNat (n%256)]
def zB (n:Nat):List UInt8:=xi 8 n
def zn (n:Nat):List UInt8:=UInt8.ofNat (zB n).length::zB n
def fJ (t:List UInt8):List UInt8:=zn t.length++t
def iC:Nat→List UInt8→Nat
 | a,[]=>a
 | a,b::l=>iC (a*256+b.toNat) l
def val (l:List UInt8):Nat:=iC 0 l
theorem av (f:Nat):xi f 0=[]:=by cases f <;> simp[xi]
theorem yl:∀(f n:Nat),n<256 ^ f→xi (f+1) n=xi f n
 | 0,n,h=>by
  have:n=0:=by simpa using h
  subst this;simp[xi]
 | f+1,n,h=>by
  by_cases h0:n=0
  ·subst h0;simp[xi]
  ·have h1:n/256<256 ^ f:=by
      rw[Nat.pow_succ]at h;exact(Nat.div_lt_iff_lt_mul (by omega)).2 h
   rw[xi,if_neg h0,yl f _ h1,xi,if_neg h0]
theorem qfT:zB 0=[]:=rfl
theorem qiP(n:Nat)(h0:n≠0)(h:n<18446744073709551616):zB n=zB (n/256)++[UInt8.ofNat (n%256)]:=by
 have h1:n<256 ^ 8:=by simpa using h
 have e:zB n=xi 9 n:=(yl 8 n h1).symm;rw[e,xi,if_neg h0];rfl
theorem eD:∀(f n:Nat),(xi f n).length≤f
 | 0,_=>by simp[xi]
 | f+1,n=>by
  unfold xi;split
  ·simp
  ·have:=eD f (n/256);simp;omega
theorem jh (n:Nat):(zB n).length≤8:=eD 8 n
theorem fK:Lib.bitLen 0=0:=by simp[Lib.bitLen,Lib.bitLenAux_zero]
theorem qcw(n:Nat)(h0:n≠0)(h:n<18446744073709551616):1≤Lib.bitLen n :=
 (Lib.bitLenAux_bounds 64 n (by simpa using h) h0).1
theorem oJ:∀(f n:Nat),f≤8→n<256 ^ f→(Lib.bitLen n+7)/8=(xi f n).length
 | 0,n,_,h=>by
  have:n=0:=by simpa using h
  subst this;simp[xi,fK]
 | f+1,n,hf,h=>by
  by_cases h0:n=0
  ·subst h0;simp[xi,fK]
  ·have h1:n/256<256 ^ f:=by
      rw[Nat.pow_succ]at h;exact(Nat.div_lt_iff_lt_mul (by omega)).2 h
   have h64:n<18446744073709551616:=by
    have:256 ^ (f+1)≤256 ^ 8:=Nat.pow_le_pow_right (by omega) hf;have e:(256:Nat) ^ 8=18446744073709551616:=by decide
    omega
   have ih:=oJ f (n/256) (by omega) h1;rw[xi,if_neg h0];simp only[List.length_append,List.length_cons,List.length_nil];by_cases hb:256≤n
   ·rw[Lib.bitLen_shift8 n hb h64];omega
   ·have e:n/256=0:=by omega
    rw[e,av];have a:=qcw n h0 h64;have b:=Lib.bitLen_le n 8 (by omega) (by omega);simp;omega
theorem count_eq(n:Nat)(h:n<18446744073709551616):(Lib.bitLen n+7)/8=(zB n).length :=
 oJ 8 n (by omega) (by simpa using h)
theorem fL:∀(a:Nat) (l m:List UInt8),iC a (l++m)=iC (iC a l) m
 | _,[],_=>rfl
 | a,b::l,m=>by simp[iC,fL]
theorem l8 (l:List UInt8)(b:UInt8):val (l++[b])=val l*256+b.toNat:=by
 simp[val,fL,iC]
theorem eE:∀(f n:Nat),n<256 ^ f→val (xi f n)=n
 | 0,n,h=>by
  have:n=0:=by simpa using h
  subst this;rfl
 | f+1,n,h=>by
  by_cases h0:n=0
  ·subst h0;simp[xi,val,iC]
  ·have h1:n/256<256 ^ f:=by
      rw[Nat.pow_succ]at h;exact(Nat.div_lt_iff_lt_mul (by omega)).2 h
   rw[xi,if_neg h0,l8,eE f _ h1];have:(UInt8.ofNat (n%256)).toNat=n%256:=by
    simp[UInt8.toNat_ofNat']
   rw[this];omega
theorem qiQ(n:Nat)(h:n<18446744073709551616):val (zB n)=n:=eE 8 n (by simpa using h)
theorem qiR(l:List UInt8):val l<256 ^ l.length:=by
 have key:∀(l:List UInt8) (a:Nat),iC a l<(a+1)*256 ^ l.length:=by
  intro l
  induction l with
  | nil=>intro a;simp[iC]
  | cons b l ih =>
   intro a;have h:=ih (a*256+b.toNat);have hb:b.toNat<256:=b.toNat_lt;simp only[iC,List.length_cons,Nat.pow_succ]
   calc iC (a*256+b.toNat) l<(a*256+b.toNat+1)*256 ^ l.length:=h
    _≤((a+1)*256)*256 ^ l.length:=Nat.mul_le_mul_right _ (by omega)
    _=(a+1)*(256 ^ l.length*256):=by rw[Nat.mul_assoc,Nat.mul_comm 256]
 have:=key l 0;simpa[val]using this
theorem qiS(l:List UInt8)(h:l.length≤8):val l<18446744073709551616:=by
 have a:=qiR l;have b:256 ^ l.length≤256 ^ 8:=Nat.pow_le_pow_right (by omega) h;have e:(256:Nat) ^ 8=18446744073709551616:=by decide
 omega
theorem qfU:∀(l:List UInt8) (f:Nat),l.length≤f→(∀b m,l=b::m→b≠0)→xi f (val l)=l:=by
 intro l;have key:∀(k:Nat) (l:List UInt8),l.length=k→∀f,l.length≤f→(∀b m,l=b::m→b≠0)→xi f (val l)=l∧(l≠[]→val l≠0):=by
  intro k
  induction k with
  | zero =>
   intro l hl f _ _;have:l=[]:=List.length_eq_zero_iff.1 hl;subst this;exact⟨av f,fun h=>absurd rfl h⟩
  | succ k ih =>
   intro l hl f hf hz;have hne:l≠[]:=by intro h;subst h;simp at hl
   have hs:l=l.dropLast++[l.getLast hne]:=(List.dropLast_concat_getLast hne).symm;generalize l.dropLast=p at hs;generalize l.getLast hne=b at hs;subst hs;have hp:p.length=k:=by simpa using hl
   obtain⟨f,rfl⟩:∃g,f=g+1:=⟨f-1,by simp at hf;omega⟩;have ihp:=ih p hp f (by simp at hf;omega) (fun c m h=>hz c (m++[b]) (by rw[h];rfl));have hb:b.toNat<256:=b.toNat_lt;rw[l8];have hnz:val p*256+b.toNat≠0:=by
    by_cases hpe:p=[]
    ·subst hpe;have hb0:=hz b [] rfl;have:b.toNat≠0:=fun h=>hb0 (by apply UInt8.toNat_inj.1;simpa using h);omega
    ·have:=ihp.2 hpe;omega
   refine⟨?_,fun _=>hnz⟩;rw[xi,if_neg hnz,show(val p*256+b.toNat)/256=val p by omega,ihp.1,show(val p*256+b.toNat)%256=b.toNat by omega];simp
 intro f hf hz;exact(key l.length l rfl f hf hz).1
theorem qiT(l:List UInt8)(hl:l.length≤8)(hz:∀b m,l=b::m→b≠0):zB (val l)=l:=qfU l 8 hl hz
theorem qfV(n:Nat)(h:n<18446744073709551616)(b:UInt8)(m:List UInt8)(e:zB n=b::m):b≠0:=by
 have key:∀(f n:Nat),n<256 ^ f→∀b m,xi f n=b::m→b≠0:=by
  intro f
  induction f with
  | zero=>intro n _ b m e;simp[xi]at e
  | succ f ih =>
   intro n hn b m e;by_cases h0:n=0
   ·subst h0;simp[xi]at e
   ·have h1:n/256<256 ^ f:=by
       rw[Nat.pow_succ]at hn;exact(Nat.div_lt_iff_lt_mul (by omega)).2 hn
    rw[xi,if_neg h0]at e;by_cases hq:n/256=0
    ·rw[hq,av]at e;simp at e;intro hb;have:(UInt8.ofNat (n%256)).toNat=0:=by rw[e.1,hb];rfl
     simp[UInt8.toNat_ofNat']at this;omega
    ·cases hd:xi f (n/256)with
     | nil =>
      have v:=eE f _ h1;rw[hd]at v;exact absurd v.symm hq
     | cons c r =>
      rw[hd]at e;simp at e;rw[← e.1];exact ih _ h1 c r hd
 exact key 8 n (by simpa using h) b m e
def rdNum (l:List UInt8):Option (Nat × List UInt8) :=
 match l with
 | []=>none
 | k::r =>
  if 8<k.toNat then none
  else if r.length<k.toNat then none
  else if (r.take k.toNat).head? = some 0 then none
  else some (val (r.take k.toNat),r.drop k.toNat)
def yR (l:List UInt8):Option (List UInt8 × List UInt8) :=
 match rdNum l with
 | none=>none
 | some (n,r)=>if r.length<n then none else some (r.take n,r.drop n)
theorem kC (n:Nat)(h:n<18446744073709551616)(r:List UInt8):rdNum (zn n++r)=some (n,r):=by
 have hl:=jh n;have e:(UInt8.ofNat (zB n).length).toNat=(zB n).length:=uh _ (by omega);have ht:(zB n++r).take (zB n).length=zB n:=by simp
 have hh:¬ (zB n).head? = some 0:=by
  intro hc;cases hd:zB n with
  | nil=>rw[hd]at hc;simp at hc
  | cons b m =>
   rw[hd]at hc;simp at hc;exact qfV n h b m hd hc
 show rdNum (UInt8.ofNat (zB n).length::(zB n++r))=_;unfold rdNum;simp only[e];rw[if_neg (by omega),if_neg (by simp),ht,if_neg hh,qiQ n h];simp
theorem qcx(t:List UInt8)(h:t.length<18446744073709551616)(r:List UInt8):yR (fJ t++r)=some (t,r):=by
 unfold yR fJ;rw[List.append_assoc,kC _ h];simp
theorem wR (l:List UInt8)(n:Nat)(r:List UInt8)(h:rdNum l=some (n,r)):l=zn n++r∧n<18446744073709551616:=by
 cases l with
 | nil=>simp[rdNum]at h
 | cons k q =>
  unfold rdNum at h;by_cases h1:8<k.toNat
  ·simp[h1]at h
  by_cases h2:q.length<k.toNat
  ·simp[h1,h2]at h
  by_cases h3:(q.take k.toNat).head? = some 0
  ·simp[h1,h2,h3]at h
  ·simp only[h1,h2,h3,if_false,Option.some.injEq,Prod.mk.injEq]at h;obtain⟨rfl,rfl⟩:=h;have hl:(q.take k.toNat).length=k.toNat:=by simp;omega
   have hz:∀b m,q.take k.toNat=b::m→b≠0:=by
    intro b m e hb;apply h3;rw[e,hb];rfl
   have hd:=qiT (q.take k.toNat) (by omega) hz;refine⟨?_,qiS _ (by omega)⟩;unfold zn;rw[hd,hl];have ek:UInt8.ofNat k.toNat=k:=by simp
   rw[ek];simp
def flat (ps:List ByteArray):List UInt8:=(ps.map bl).flatten
theorem qfW(ps:List ByteArray)(k:Nat)(h:k<ps.length):flat (ps.take (k+1))=flat (ps.take k)++bl ps[k]:=by
 unfold flat;rw[List.take_succ_eq_append_getElem h,List.map_append,List.flatten_append];simp
theorem nU (ps:List ByteArray)(k:Nat):(flat (ps.take k)).length≤(flat ps).length:=by
 have:flat ps=flat (ps.take k)++flat (ps.drop k):=by
  unfold flat;rw[← List.flatten_append,← List.map_append,List.take_append_drop]
 rw[this];simp
end Go.Proofs.YtdagdllomphidaaGreatDoor.wi
namespace Go.Proofs.YtdagdllomphidaaGreatDoor.mt
def nsec (n:Nat):Nat:=(n+37)/32
end Go.Proofs.YtdagdllomphidaaGreatDoor.mt
namespace Go.Proofs.YtdagdllomphidaaGreatDoor.mt
open _root_.Go.Proofs.Tryz Go Go.RowKit im wi
abbrev Gd:=Nat × Nat
def xn (g:Gd):Prop:=g.1<18446744073709551616∧g.2<18446744073709551616
structure Sp where
 g:Gd
 qj:List Int
 hid:Bool
 deriving DecidableEq
structure Tk where
 base:Gd
 target:Gd
 next:Int
 all:Int
 qj:List Int
 deriving DecidableEq
structure Mt where
 live:List Int
 qa:List Sp
 tok:Tk
 deriving DecidableEq
def zL:Tk:=⟨(0,0),(0,0),0,0,[]⟩
def mt0:Mt:=⟨[],[],zL⟩
def above (a b:Gd):Bool:=decide (b.1<a.1) || (decide (a.1=b.1)&&decide (b.2<a.2))
def xK (b n:Int):Gd→List Sp→Int × Gd
 | last,[]=>(0,last)
 | last,s::r=>if above s.g last=true then(if zD s.qj b n=0 then xK b n s.g r else(zD s.qj b n,s.g))else(2,last)
def rA (t:Tk):Bool:=decide (t.base=(0,0))&&decide (t.next=0)&&decide (t.all=0)&&decide (t.qj=[])
def wS (t:Tk)(last:Gd)(b:Int):Bool:=!decide (t.base=last) || !above t.target last || decide (t.next<1) || decide (t.all≤t.next) || decide (b<t.all)
def kG (b n:Int)(last:Gd)(t:Tk):Int :=
 if t.target=(0,0)then(if rA t=true then 0 else 2)else if wS t last b=true then 2 else zD t.qj b n
def xj (m:Mt)(b n:Int):Int :=
 if zD m.live b n≠0 then zD m.live b n
 else if 20<m.qa.length then 3
 else if (xK b n (0,0) m.qa).1≠0 then(xK b n (0,0) m.qa).1
 else kG b n (xK b n (0,0) m.qa).2 m.tok
def xU (z:Int):List UInt8:=zn z.toNat
def zg (l:List Int):List UInt8:=l.flatMap xU
def jG (g:Gd):List UInt8:=zn g.1++zn g.2
def spB (s:Sp):List UInt8:=jG s.g++(zn (if s.hid then 1 else 0)++zg s.qj)
def yK (l:List Sp):List UInt8:=l.flatMap spB
def tkB (t:Tk):List UInt8:=if t.target=(0,0)then zn 0 else zn 1++(jG t.base++(jG t.target++(xU t.next++(xU t.all++zg t.qj))))
def zx (m:Mt):List UInt8:=zn m.live.length++(zg m.live++(zn m.qa.length++(yK m.qa++tkB m.tok)))
def wy (m:Mt):List UInt8 × Int :=
 if xj m m.live.length 1024≠0 then([],xj m m.live.length 1024)else if 48<nsec (zx m).length then([],3)else(zx m,0)
abbrev St:=Option (List UInt8)
def yc (s:St):Nat × St:=match s with
 | none=>(0,none)
 | some l=>match rdNum l with
  | none=>(0,none)
  | some (n,r)=>(n,some r)
def kH (s:St):Nat × St:=(min (yc s).1 1048576,(yc s).2)
def fM:Nat→St→List Int × St
 | 0,s=>([],s)
 | n+1,s=>(((kH s).1:Int)::(fM n (kH s).2).1,(fM n (kH s).2).2)
def uw (s:St):Gd × St:=(((yc s).1,(yc (yc s).2).1),(yc (yc s).2).2)
def spS (b:Nat)(s:St):Sp × St :=
 let g:=uw s;let h:=kH g.2;let i:=fM b h.2
 (⟨g.1,i.1,decide (h.1=1)⟩,i.2)
def rB (b:Nat):Nat→St→List Sp × St
 | 0,s=>([],s)
 | n+1,s=>((spS b s).1::(rB b n (spS b s).2).1,(rB b n (spS b s).2).2)
def tkS (b:Nat)(s:St):Tk × St :=
 let f:=kH s
 if f.1=1 then
  let x:=uw f.2;let y:=uw x.2;let n:=kH y.2;let a:=kH n.2;let i:=fM b a.2
  (⟨x.1,y.1,n.1,a.1,i.1⟩,i.2)
 else(zL,f.2)
def mS (s:St):Mt × St :=
 let k:=kH s;let b:=min k.1 100;let l:=fM b k.2;let c:=kH l.2;let ss:=rB b (min c.1 100) c.2;let t:=tkS b ss.2
 (⟨l.1,ss.1,t.1⟩,t.2)
def l9 (s:List UInt8):Mt × Int:=if wy (mS (some s)).1=(s,0)then((mS (some s)).1,0)else(mt0,4)
theorem kI (n:Nat)(h:n<18446744073709551616)(r:List UInt8):yc (some (zn n++r))=(n,some r):=by
 unfold yc;simp only[kC n h]
theorem ym (n:Nat)(h:n≤1048576)(r:List UInt8):kH (some (zn n++r))=(n,some r):=by
 unfold kH;rw[kI n (by omega)];simp only[Nat.min_eq_left h]
def ye (l:List Int):Prop:=∀z∈l,0≤z∧z≤1048576
theorem dy:∀(l:List Int) (_:ye l) (r:List UInt8),fM l.length (some (zg l++r))=(l,some r)
 | [],_,r=>rfl
 | z::l,h,r=>by
  have hz:=h z (by simp);have e:zg (z::l)++r=zn z.toNat++(zg l++r):=by simp[zg,xU]
  show fM (l.length+1) (some (zg (z::l)++r))=_;rw[e];unfold fM;rw[ym _ (by omega)];simp only;rw[dy l (fun x hx=>h x (by simp[hx])) r];simp only[Int.toNat_of_nonneg hz.1]
theorem dz (g:Gd)(h:xn g)(r:List UInt8):uw (some (jG g++r))=(g,some r):=by
 unfold uw jG;rw[List.append_assoc,kI _ h.1];simp only;rw[kI _ h.2]
def qsQ (b:Nat)(s:Sp):Prop:=xn s.g∧s.qj.length=b∧ye s.qj
theorem qmY(b:Nat)(s:Sp)(h:qsQ b s)(r:List UInt8):spS b (some (spB s++r))=(s,some r):=by
 obtain⟨h1,h2,h3⟩:=h;unfold spS spB;rw[List.append_assoc,dz _ h1];simp only;rw[List.append_assoc,ym _ (by split <;> omega)];simp only;rw[← h2,dy _ h3];cases s with|mk g qj hid=>cases hid <;> rfl
theorem qah(b:Nat):∀(l:List Sp) (_:∀s∈l,qsQ b s) (r:List UInt8),rB b l.length (some (yK l++r))=(l,some r)
 | [],_,r=>rfl
 | s::l,h,r=>by
  have e:yK (s::l)++r=spB s++(yK l++r):=by simp[yK]
  show rB b (l.length+1) (some (yK (s::l)++r))=_;rw[e];unfold rB;rw[qmY b s (h s (by simp))];simp only;rw[qah b l (fun x hx=>h x (by simp[hx])) r]
def bp (b:Nat)(t:Tk):Prop:=if t.target=(0,0)then t=zL else xn t.base∧xn t.target∧(0≤t.next∧t.next≤1048576)∧(0≤t.all∧t.all≤1048576)∧t.qj.length=b∧ye t.qj
theorem qmZ(b:Nat)(t:Tk)(h:bp b t)(r:List UInt8):tkS b (some (tkB t++r))=(t,some r):=by
 unfold bp at h;unfold tkB;by_cases h0:t.target=(0,0)
 ·rw[if_pos h0]at h ⊢;unfold tkS;rw[ym 0 (by omega),h];rfl
 ·rw[if_neg h0]at h ⊢;obtain⟨h1,h2,h3,h4,h5,h6⟩:=h;unfold tkS;simp only[List.append_assoc];rw[ym 1 (by omega)];simp only[if_true];rw[dz _ h1];simp only;rw[dz _ h2];simp only;unfold xU;rw[ym _ (by omega)];simp only;rw[ym _ (by omega)];simp only;rw[← h5,dy _ h6];simp only[Int.toNat_of_nonneg h3.1,Int.toNat_of_nonneg h4.1]
structure qww(m:Mt):Prop where
 b:m.live.length≤100
 live:ye m.live
 few:m.qa.length≤100
 qa:∀s∈m.qa,qsQ m.live.length s
 tok:bp m.live.length m.tok
theorem qsR(m:Mt)(h:qww m)(r:List UInt8):mS (some (zx m++r))=(m,some r):=by
 have hb:=h.b;have hf:=h.few;unfold mS zx;simp only[List.append_assoc];rw[ym _ (by omega)];simp only[Nat.min_eq_left hb];rw[dy _ h.live];simp only;rw[ym _ (by omega)];simp only[Nat.min_eq_left hf];rw[qah _ _ h.qa];simp only;rw[qmZ _ _ h.tok]
theorem jy {l:List Int}{b n:Int}(h:zD l b n=0):1≤b∧b≤8∧(l.length:Int)=b∧∀z∈l,z=0∨(193≤z∧z<n):=by
 unfold zD at h;split at h
 ·cases h
 ·rename_i h1;split at h
  ·cases h
  ·rename_i h2;refine⟨by omega,by omega,by omega,fun z hz=>?_⟩;have hb:wx n z=false:=by
    cases hc:wx n z with
    | false=>rfl
    | true=>exact absurd (List.any_eq_true.2 ⟨z,hz,hc⟩) h2
   unfold wx at hb;by_cases hz0:z=0
   ·exact .inl hz0
   ·rw[decide_eq_true hz0,Bool.true_and]at hb;simp only[Bool.or_eq_false_iff,decide_eq_false_iff_not]at hb;exact .inr (by omega)
theorem rC {l:List Int}{b:Int}(h:zD l b 1024=0):ye l:=fun z hz=>by
 rcases(jy h).2.2.2 z hz with h|h <;> omega
structure mB(m:Mt):Prop where
 qa:∀s∈m.qa,xn s.g
 base:xn m.tok.base
 target:xn m.tok.target
theorem ld {b n:Int}:∀ {l:List Sp} {last:Gd},(xK b n last l).1=0→∀s∈l,zD s.qj b n=0
 | [],_,_,s,hs=>absurd hs (by simp)
 | x::r,last,h,s,hs=>by
  unfold xK at h;split at h
  ·split at h
   ·rename_i h2;rcases List.mem_cons.1 hs with rfl|hs
    ·exact h2
    ·exact ld h s hs
   ·rename_i h2;exact absurd h h2
  ·cases h
theorem lf {m:Mt}(hB:mB m)(h:xj m m.live.length 1024=0):qww m∧1≤m.live.length∧m.live.length≤8∧m.qa.length≤20:=by
 unfold xj at h;split at h
 ·rename_i h1;exact absurd h h1
 rename_i h1;have h1':zD m.live m.live.length 1024=0:=Classical.byContradiction h1;split at h
 ·cases h
 rename_i h2;split at h
 ·rename_i h3;exact absurd h h3
 rename_i h3;have h3':=Classical.byContradiction h3;have hl:=jy h1';refine⟨⟨by omega,rC h1',by omega,fun s hs=>?_,?_⟩,by omega,by omega,by omega⟩
 ·have:=ld h3' s hs;have hi:=jy this;exact⟨hB.qa s hs,by omega,rC this⟩
 ·unfold bp;unfold kG at h;split at h
  ·rename_i h4;rw[if_pos h4];split at h
   ·rename_i h5;unfold rA at h5;simp only[Bool.and_eq_true,decide_eq_true_eq]at h5;obtain⟨⟨⟨e1,e2⟩,e3⟩,e4⟩:=h5;generalize m.tok=t at *;cases t;simp only at e1 e2 e3 e4 h4;subst e1 e2 e3 e4 h4;rfl
   ·cases h
  ·rename_i h4;rw[if_neg h4];split at h
   ·cases h
   ·rename_i h5;unfold wS at h5;simp only[Bool.or_eq_true,not_or,Bool.not_eq_true,decide_eq_true_eq]at h5;obtain⟨⟨⟨⟨_,_⟩,e3⟩,e4⟩,e5⟩:=h5;have hi:=jy h;exact⟨hB.base,hB.target,by omega,by omega,by omega,rC h⟩
theorem qiU{m:Mt}{s:List UInt8}(h:wy m=(s,0)):xj m m.live.length 1024=0∧s=zx m∧nsec s.length≤48:=by
 unfold wy at h;split at h
 ·rename_i h1;exact absurd (Prod.mk.inj h).2 h1
 ·rename_i h1;split at h
  ·cases (Prod.mk.inj h).2
  ·rename_i h2;have:=(Prod.mk.inj h).1;exact⟨Classical.byContradiction h1,this.symm,by rw[← this];omega⟩
theorem qiV{m:Mt}{s:List UInt8}(hB:mB m)(h:wy m=(s,0))(r:List UInt8):mS (some (s++r))=(m,some r):=by
 obtain⟨h1,rfl,_⟩:=qiU h;exact qsR m (lf hB h1).1 r
theorem qai{m:Mt}{s:List UInt8}(hB:mB m)(h:wy m=(s,0)):l9 s=(m,0):=by
 have:=qiV hB h [];rw[List.append_nil]at this;unfold l9;rw[this,if_pos h]
theorem qe8{m:Mt}{s:List UInt8}(h:l9 s=(m,0)):wy m=(s,0)∧m=(mS (some s)).1:=by
 unfold l9 at h;split at h
 ·rename_i h1;have:=(Prod.mk.inj h).1;rw[this]at h1;exact⟨h1,this.symm⟩
 ·cases (Prod.mk.inj h).2
theorem qna(s:List UInt8):(∃m,l9 s=(m,0))∨l9 s=(mt0,4):=by
 unfold l9;split
 ·exact .inl ⟨_,rfl⟩
 ·exact .inr rfl
theorem rD (s:St):(yc s).1<18446744073709551616:=by
 unfold yc;split
 ·decide
 ·split
  ·decide
  ·rename_i l n r h;exact(wR _ _ _ h).2
theorem oK (s:St):xn (uw s).1:=⟨rD _,rD _⟩
theorem qiW(b:Nat):∀(n:Nat) (s:St),∀x∈(rB b n s).1,xn x.g
 | 0,_,x,hx=>absurd hx (by simp[rB])
 | n+1,s,x,hx=>by
  unfold rB at hx;simp only[List.mem_cons]at hx;rcases hx with rfl|hx
  ·exact oK _
  ·exact qiW b n _ x hx
theorem lg:xn (0,0):=⟨by decide,by decide⟩
theorem qpz(b:Nat)(s:St):xn (tkS b s).1.base∧xn (tkS b s).1.target:=by
 unfold tkS;dsimp only;split
 ·exact⟨oK _,oK _⟩
 ·exact⟨lg,lg⟩
theorem q2d(s:St):mB (mS s).1:=⟨fun x hx=>qiW _ _ _ x hx,(qpz _ _).1,(qpz _ _).2⟩
theorem qwx{m:Mt}{s:List UInt8}(h:l9 s=(m,0)):mB m:=by
 rw[(qe8 h).2];exact q2d _
end Go.Proofs.YtdagdllomphidaaGreatDoor.mt
namespace Go.Proofs.YtdagdllomphidaaGreatDoor.mt.pg
open _root_.Go.Proofs.Tryz Go Go.RowKit im wi mt
def jP (k:Nat)(s:St):Nat × St:=(min (yc s).1 (k+1),(yc s).2)
def wA:Nat→St→List Int × St
 | 0,s=>([],s)
 | n+1,s=>(((jP 1024 s).1:Int)::(wA n (jP 1024 s).2).1,(wA n (jP 1024 s).2).2)
def lh (b:Nat)(s:St):Sp × St:=(⟨(uw s).1,(wA b (yc (uw s).2).2).1,decide ((yc (uw s).2).1=1)⟩,(wA b (yc (uw s).2).2).2)
def kJ (b:Nat):Nat→St→List Sp × St
 | 0,s=>([],s)
 | n+1,s=>((lh b s).1::(kJ b n (lh b s).2).1,(kJ b n (lh b s).2).2)
def nV (b:Nat)(s:St):Tk × St :=
 (⟨(uw s).1,(uw (uw s).2).1,(jP 8 (uw (uw s).2).2).1,(jP 8 (jP 8 (uw (uw s).2).2).2).1,(wA b (jP 8 (jP 8 (uw (uw s).2).2).2).2).1⟩,(wA b (jP 8 (jP 8 (uw (uw s).2).2).2).2).2)
def fN (s:St):List Int × St:=wA (jP 8 s).1 (jP 8 s).2
def qcy (s:St):List Sp × St:=kJ (jP 8 s).1 (jP 20 (fN s).2).1 (jP 20 (fN s).2).2
def mP (s:St):Mt:=⟨(fN s).1,(qcy s).1,if (yc (qcy s).2).1=1 then(nV (jP 8 s).1 (yc (qcy s).2).2).1 else zL⟩
theorem eF (k:Nat)(s:St):(jP k s).1≤k+1:=by unfold jP;dsimp only;omega
theorem kj:∀(n:Nat) (s:St),(wA n s).1.length=n
 | 0,_=>rfl
 | n+1,s=>by simp[wA,kj n]
theorem rE:∀(n:Nat) (s:St),ye (wA n s).1
 | 0,_=>fun z hz=>absurd hz (by simp[wA])
 | n+1,s=>fun z hz=>by
  have h:=eF 1024 s;simp only[wA,List.mem_cons]at hz;rcases hz with rfl|hz
  ·omega
  ·exact rE n _ z hz
theorem qaj:∀(n:Nat) (s:St),wA (n+1) s=((wA n s).1++[((jP 1024 (wA n s).2).1:Int)],(jP 1024 (wA n s).2).2)
 | 0,s=>rfl
 | n+1,s=>by
  have ih:=qaj n (jP 1024 s).2;show((((jP 1024 s).1:Int)::(wA (n+1) (jP 1024 s).2).1,(wA (n+1) (jP 1024 s).2).2):List Int × St)=_;rw[ih];rfl
theorem oL (b:Nat):∀(n:Nat) (s:St),kJ b (n+1) s=((kJ b n s).1++[(lh b (kJ b n s).2).1],(lh b (kJ b n s).2).2)
 | 0,s=>rfl
 | n+1,s=>by
  have ih:=oL b n (lh b s).2;show(((lh b s).1::(kJ b (n+1) (lh b s).2).1,(kJ b (n+1) (lh b s).2).2):List Sp × St)=_;rw[ih];rfl
theorem qiX(b:Nat)(s:St):ye (lh b s).1.qj∧(lh b s).1.qj.length=b∧xn (lh b s).1.g:=⟨rE _ _,kj _ _,oK _⟩
theorem rF (b:Nat):∀(n:Nat) (s:St),∀x∈(kJ b n s).1,ye x.qj∧x.qj.length=b∧xn x.g
 | 0,_,x,hx=>absurd hx (by simp[kJ])
 | n+1,s,x,hx=>by
  unfold kJ at hx;simp only[List.mem_cons]at hx;rcases hx with rfl|hx
  ·exact qiX b s
  ·exact rF b n _ x hx
theorem bq (k n:Nat)(h:n≤k)(hk:k≤2000)(r:List UInt8):jP k (some (zn n++r))=(n,some r):=by
 unfold jP;rw[kI n (by omega)];simp only[Nat.min_eq_left (show n≤k+1 by omega)]
def tight (l:List Int):Prop:=∀z∈l,0≤z∧z≤1024
theorem iM:∀(l:List Int) (_:tight l) (r:List UInt8),wA l.length (some (zg l++r))=(l,some r)
 | [],_,r=>rfl
 | z::l,h,r=>by
  have hz:=h z (by simp);have e:zg (z::l)++r=zn z.toNat++(zg l++r):=by simp[zg,xU]
  show wA (l.length+1) (some (zg (z::l)++r))=_;rw[e];unfold wA;rw[bq 1024 _ (by omega) (by omega)];simp only;rw[iM l (fun x hx=>h x (by simp[hx])) r];simp only[Int.toNat_of_nonneg hz.1]
theorem qnb(b:Nat)(s:Sp)(h1:xn s.g)(h2:s.qj.length=b)(h3:tight s.qj)(r:List UInt8):lh b (some (spB s++r))=(s,some r):=by
 unfold lh spB;rw[List.append_assoc,dz _ h1];simp only;rw[List.append_assoc,kI _ (by split <;> omega)];simp only;rw[← h2,iM _ h3];cases s with|mk g qj hid=>cases hid <;> rfl
theorem qak(b:Nat):∀(l:List Sp) (_:∀s∈l,xn s.g∧s.qj.length=b∧tight s.qj) (r:List UInt8),kJ b l.length (some (yK l++r))=(l,some r)
 | [],_,r=>rfl
 | s::l,h,r=>by
  have e:yK (s::l)++r=spB s++(yK l++r):=by simp[yK]
  have hs:=h s (by simp);show kJ b (l.length+1) (some (yK (s::l)++r))=_;rw[e];unfold kJ;rw[qnb b s hs.1 hs.2.1 hs.2.2];simp only;rw[qak b l (fun x hx=>h x (by simp[hx])) r]
structure qp0(m:Mt):Prop where
 b:m.live.length≤8
 live:tight m.live
 few:m.qa.length≤20
 qa:∀s∈m.qa,xn s.g∧s.qj.length=m.live.length∧tight s.qj
 tok:if m.tok.target=(0,0)then m.tok=zL else xn m.tok.base∧xn m.tok.target∧(0≤m.tok.next∧m.tok.next≤8)∧(0≤m.tok.all∧m.tok.all≤8)∧m.tok.qj.length=m.live.length∧tight m.tok.qj
theorem qnc(b:Nat)(t:Tk)(h:xn t.base∧xn t.target∧(0≤t.next∧t.next≤8)∧(0≤t.all∧t.all≤8)∧t.qj.length=b∧tight t.qj)(r:List UInt8) :
    nV b (some ((jG t.base++(jG t.target++(xU t.next++(xU t.all++zg t.qj))))++r))=(t,some r):=by
 obtain⟨h1,h2,h3,h4,h5,h6⟩:=h;unfold nV;simp only[List.append_assoc];rw[dz _ h1];simp only;rw[dz _ h2];simp only;unfold xU;rw[bq 8 _ (by omega) (by omega)];simp only;rw[bq 8 _ (by omega) (by omega)];simp only;rw[← h5,iM _ h6];simp only[Int.toNat_of_nonneg h3.1,Int.toNat_of_nonneg h4.1]
theorem qsS(m:Mt)(h:qp0 m):mP (some (zx m))=m:=by
 have h1:jP 8 (some (zx m))=(m.live.length,some (zg m.live++(zn m.qa.length++(yK m.qa++tkB m.tok)))):=by
  unfold zx;exact bq 8 _ h.b (by omega) _
 have h2:fN (some (zx m))=(m.live,some (zn m.qa.length++(yK m.qa++tkB m.tok))):=by
  unfold fN;rw[h1];exact iM _ h.live _
 have h3:qcy (some (zx m))=(m.qa,some (tkB m.tok)):=by
  unfold qcy;rw[h2,h1,bq 20 _ h.few (by omega)];exact qak _ _ h.qa _
 unfold mP;rw[h3,h2,h1];dsimp only;have ht:=h.tok;unfold tkB;by_cases h0:m.tok.target=(0,0)
 ·rw[if_pos h0]at ht;rw[if_pos h0];have:=kI 0 (by omega) [];rw[List.append_nil]at this;rw[this,if_neg (by decide),← ht]
 ·rw[if_neg h0]at ht;rw[if_neg h0,kI 1 (by omega)];simp only[if_true];have:=qnc m.live.length m.tok ht [];rw[List.append_nil]at this;rw[this]
theorem qiY{m:Mt}(hB:mB m)(h:xj m m.live.length 1024=0):qp0 m:=by
 obtain⟨jq,hl1,hl8,q2e⟩:=lf hB h;unfold xj at h;split at h
 ·rename_i h1;exact absurd h h1
 rename_i h1;have h1':zD m.live m.live.length 1024=0:=Classical.byContradiction h1;split at h
 ·cases h
 split at h
 ·rename_i h3;exact absurd h h3
 rename_i h3;have h3':=Classical.byContradiction h3;have tg:∀ {l:List Int} {b:Int},zD l b 1024=0→tight l:=fun h z hz=>by
  rcases(jy h).2.2.2 z hz with h|h <;> omega
 refine⟨hl8,tg h1',q2e,fun s hs=>?_,?_⟩
 ·have:=ld h3' s hs;have hi:=jy this;exact⟨hB.qa s hs,by omega,tg this⟩
 ·have ht:=jq.tok;unfold bp at ht;unfold kG at h;by_cases h4:m.tok.target=(0,0)
  ·rw[if_pos h4]at ht ⊢;exact ht
  ·rw[if_neg h4]at h ⊢;split at h
   ·cases h
   ·rename_i h5;unfold wS at h5;simp only[Bool.or_eq_true,not_or,Bool.not_eq_true,decide_eq_true_eq]at h5;obtain⟨⟨⟨⟨_,_⟩,e3⟩,e4⟩,e5⟩:=h5;have hi:=jy h;exact⟨hB.base,hB.target,by omega,by omega,by omega,tg h⟩
theorem qiZ(b:Nat)(s:St):xn (nV b s).1.base∧xn (nV b s).1.target:=⟨oK _,oK _⟩
theorem q2f(s:St):mB (mP s):=by
 refine⟨fun x hx=>(rF _ _ _ x hx).2.2,?_,?_⟩
 ·show xn (if _ then _ else zL:Tk).base;split
  ·exact(qiZ _ _).1
  ·exact lg
 ·show xn (if _ then _ else zL:Tk).target;split
  ·exact(qiZ _ _).2
  ·exact lg
theorem qsT(s:List UInt8):l9 s=if wy (mP (some s))=(s,0)then(mP (some s),0)else(mt0,4):=by
 by_cases h:wy (mP (some s))=(s,0)
 ·rw[if_pos h];exact qai (q2f _) h
 ·rw[if_neg h];rcases qna s with⟨m,h1⟩|h1
  ·exfalso;have h2:=(qe8 h1).1;have h3:=qiU h2;apply h;rw[h3.2.1,qsS m (qiY (qwx h1) h3.1),← h3.2.1];exact h2
  ·exact h1
end Go.Proofs.YtdagdllomphidaaGreatDoor.mt.pg
namespace Go.Proofs
open _root_.Go.Proofs.Tryz Go.Shelf
def Tryz.qam:Go.Shelf.Ren:=⟨fun | 129=>223|n=>n,fun | 53=>35 | 3=>3 | 4=>4 | 46=>224 | 5=>5 | 9=>9|n=>n,fun|n=>n⟩
theorem Tryz.qnd:Go.Proofs.Lays.n129 prog Tryz.qam:={
 mixed:=by kernel_rfl
 f129:=func223.trans (congrArg some (by kernel_rfl))
 t3:=underlying3
 a3:=isAgg3
 z3:=sizeOf3
 v3:=zeroValue3
 t4:=underlying4
 a4:=isAgg4
 z4:=sizeOf4
 v4:=zeroValue4
 t5:=underlying5
 a5:=isAgg5
 z5:=sizeOf5
 v5:=zeroValue5
 t9:=underlying9
 a9:=isAgg9
 z9:=sizeOf9
 v9:=zeroValue9
 t46:=underlying224
 a46:=isAgg224
 z46:=sizeOf224
 v46:=zeroValue224
 t53:=underlying35
 a53:=isAgg35
 z53:=sizeOf35
 v53:=zeroValue35 }
theorem Tryz.bits_Len64(x:Int)(w:World)(h0:0≤x)(h1:x≤18446744073709551615) :
    Calls prog 223 #[.int .u64 x] w fun e w'=>e=.returned (.int .i64 (Lib.bitLen x.toNat))∧w'=w:=Any.bits_Len64 Tryz.qnd x w h0 h1
def Tryz.fO:Go.Shelf.Ren:=⟨fun | 166=>157 | 240=>190 | 276=>212|n=>n,fun | 0=>0 | 3=>3 | 4=>4 | 9=>9 | 20=>20 | 37=>118 | 70=>228 | 72=>230 | 75=>232 | 164=>291 | 5=>5 | 80=>235|n=>n,fun|n=>n⟩
theorem Tryz.qne:Go.Proofs.Lays.n166 prog Tryz.fO:={
 mixed:=by kernel_rfl
 f166:=func157.trans (congrArg some (by kernel_rfl))
 f240:=func190.trans (congrArg some (by kernel_rfl))
 f276:=func212.trans (congrArg some (by kernel_rfl))
 t0:=underlying0
 a0:=isAgg0
 z0:=sizeOf0
 v0:=zeroValue0
 t3:=underlying3
 a3:=isAgg3
 z3:=sizeOf3
 v3:=zeroValue3
 t4:=underlying4
 a4:=isAgg4
 z4:=sizeOf4
 v4:=zeroValue4
 t9:=underlying9
 a9:=isAgg9
 z9:=sizeOf9
 v9:=zeroValue9
 t20:=underlying20
 a20:=isAgg20
 z20:=sizeOf20
 v20:=zeroValue20
 t37:=underlying118
 a37:=isAgg118
 z37:=sizeOf118
 v37:=zeroValue118
 t70:=underlying228
 a70:=isAgg228
 z70:=sizeOf228
 v70:=zeroValue228
 t72:=underlying230
 a72:=isAgg230
 z72:=sizeOf230
 v72:=zeroValue230
 t75:=underlying232
 a75:=isAgg232
 z75:=sizeOf232
 v75:=zeroValue232
 t164:=underlying291
 a164:=isAgg291
 z164:=sizeOf291
 v164:=zeroValue291 }
theorem Tryz.br:Builder.Extra prog Tryz.fO:={
 sizeBuilder:=by kernel_rfl
 liesBuilder:=by kernel_rfl
 t5:=underlying5
 a5:=isAgg5
 z5:=sizeOf5
 v5:=zeroValue5
 infoByte:=by kernel_rfl
 cellsByte:=by kernel_rfl
 sizeByte:=by kernel_rfl
 neB5:=by decide }
open Go.RowKit in
theorem Tryz.Builder_WriteString(B b:Nat)(bs:List Value)(s:ByteArray)(w:World)(h:Lib.IsBuilder 230 5 B b bs w)(hlen:bs.length+s.size≤140737488355328)(hBw:B≤w.heap.size) :
    Calls prog 157 #[.pointer (some ⟨b,0,none⟩),.string s] w fun e w'=>e=.returned (.tuple #[.int .i64 s.size,.nilIface])∧(Lib.BuilderAt 230 5 B b (.pointer (some ⟨b,0,none⟩)) (bs++Lib.strCells s) w'∧Below B w w'):=Any.Builder_WriteString Tryz.qne Tryz.br B b bs s w h hlen hBw
def Tryz.fP:Go.Shelf.Ren:=⟨fun | 169=>159|n=>n,fun | 70=>228 | 9=>9 | 0=>0 | 72=>230 | 37=>118 | 127=>270 | 3=>3 | 5=>5|n=>n,fun|n=>n⟩
theorem Tryz.qnf:Go.Proofs.Lays.n169 prog Tryz.fP:={
 mixed:=by kernel_rfl
 f169:=func159.trans (congrArg some (by kernel_rfl))
 t0:=underlying0
 a0:=isAgg0
 z0:=sizeOf0
 v0:=zeroValue0
 t3:=underlying3
 a3:=isAgg3
 z3:=sizeOf3
 v3:=zeroValue3
 t9:=underlying9
 a9:=isAgg9
 z9:=sizeOf9
 v9:=zeroValue9
 t37:=underlying118
 a37:=isAgg118
 z37:=sizeOf118
 v37:=zeroValue118
 t70:=underlying228
 a70:=isAgg228
 z70:=sizeOf228
 v70:=zeroValue228
 t72:=underlying230
 a72:=isAgg230
 z72:=sizeOf230
 v72:=zeroValue230
 t127:=underlying270
 a127:=isAgg270
 z127:=sizeOf270
 v127:=zeroValue270 }
theorem Tryz.bt:Builder.Extra prog Tryz.fP:={
 sizeBuilder:=by kernel_rfl
 liesBuilder:=by kernel_rfl
 t5:=underlying5
 a5:=isAgg5
 z5:=sizeOf5
 v5:=zeroValue5
 infoByte:=by kernel_rfl
 cellsByte:=by kernel_rfl
 sizeByte:=by kernel_rfl
 neB5:=by decide }
open Go.RowKit in
theorem Tryz.Builder_String_any(B b:Nat)(l:List UInt8)(w:World)(h:Lib.IsBuilder 230 5 B b (Lib.byteCells l) w)(hBw:B≤w.heap.size) :
    Calls prog 159 #[.pointer (some ⟨b,0,none⟩)] w fun e w'=>e=.returned (.string ⟨l.toArray⟩)∧Below B w w':=Any.Builder_String_any Tryz.qnf Tryz.bt B b l w h hBw
end Go.Proofs
namespace Go.Proofs.YtdagdllomphidaaGreatDoor
open _root_.Go.Proofs.Tryz Go.RowKit
theorem Tryz.qja:(prog.info? 9).map (fun i=>(i.zero,i.size,i.bytes))=some (some (.string ByteArray.empty),1,16):=by kernel_rfl
theorem Tryz.qan:(prog.info? 5).map (fun i=>(i.zero,i.size,i.bytes))=some (some (.int .u8 0),1,1):=by kernel_rfl
end Go.Proofs.YtdagdllomphidaaGreatDoor
namespace Go.Proofs.YtdagdllomphidaaGreatDoor.wi
open _root_.Go.Proofs.Tryz Go.RowKit
theorem oM (n:Int)(w:World)(h0:0≤n)(h1:n≤18446744073709551615) :
    Calls prog 219 #[.int .u64 n] w fun e w'=>e=.returned (.int .i64 ((zB n.toNat).length:Nat))∧w=w':=by
 have hc:=count_eq n.toNat (by omega);have hb:Lib.bitLen n.toNat≤64:=Lib.bitLen_le _ 64 (by omega) (by omega);have e1:((zB n.toNat).length:Int)=((Lib.bitLen n.toNat:Nat)+7:Int)/8:=by omega
 have E1:=QH e1;clear e1 hc;go_enter func219,ntmps219;go_wp2_with (go_at_call 223;refine(Tryz.bits_Len64 n _ h0 h1).mono ?_;rintro e w' ⟨rfl,rfl⟩);go_ret;exact⟨by rw[E1.out];rfl,rfl⟩
def qjb (n:Nat)(w:World)(e:Ending)(w':World):Prop :=
 e=.returned (.string (str [UInt8.ofNat (zB n).length]))∧Below w.heap.size w w'
theorem qwy(k:Nat)(hk:k<256)(w:World) :
    (convert 118 9 (.slice (some ⟨w.heap.size,0,none⟩) 1 1)).run prog (w.alloc (.cells #[.int .u8 (k:Int)] 5))=.ok (.string (str [UInt8.ofNat k])) (w.alloc (.cells #[.int .u8 (k:Int)] 5)):=by
 refine run_convert_bytes_back (P:=prog) _ 118 9 5 ⟨w.heap.size,0,none⟩ 1 [UInt8.ofNat k] underlying118 underlying5 underlying9 ?_;intro j hj;have:j=0:=by simpa using hj
 subst this;have e:(UInt8.ofNat k).toNat=k:=uh k hk;simp[Addr.add,e,World.cell?,World.alloc,-World.alloc_eq]
theorem bu (n:Int)(w:World)(h0:0≤n)(h1:n≤18446744073709551615) :
    Calls prog 207 #[.int .u64 n] w (qjb n.toNat w):=by
 have hl:=jh n.toNat;have hcv:=qwy (zB n.toNat).length (by omega) w;go_enter func207,ntmps207;go_wp2_with (go_at_call 219;refine(oM n _ h0 h1).mono ?_;rintro e w' ⟨rfl,rfl⟩);go_ret;exact⟨rfl,(Below.refl _ _).alloc (Nat.le_refl _) _⟩
def yL (D:List UInt8)(k:Nat):List Value:=List.replicate k (.int .u8 0)++Lib.byteCells (D.drop k)
def qao (n:Nat)(w:World)(e:Ending)(w':World):Prop :=
 e=.returned (.string (str (zB n)))∧Below w.heap.size w w'
def qsU (D:List UInt8)(w:World)(n i:Value)(wr:World):Prop :=
 ∃k m:Nat,i=.int .i64 ((k:Int)-1)∧n=.int .u64 (m:Int)∧m<18446744073709551616∧zB m=D.take k∧k≤D.length ∧
  wr.ownsRow w.heap.size 5 1 (.slice (some ⟨w.heap.size,0,none⟩) D.length D.length) D.length (yL D k)∧Below w.heap.size w wr
theorem rG (D:List UInt8)(k:Nat)(h:k<D.length):(yL D (k+1)).set k (.int .u8 (D[k].toNat:Int))=yL D k:=by
 unfold yL;rw[List.replicate_succ',List.append_assoc,List.set_append_right _ _ (by simp),List.length_replicate,Nat.sub_self,List.drop_eq_getElem_cons h];rfl
theorem qjc(D:List UInt8)(m k:Nat)(hm:m<18446744073709551616)(hk:k<D.length)(h:zB m=D.take (k+1)) :
    m≠0∧zB (m/256)=D.take k∧D[k].toNat=m%256:=by
 have h0:m≠0:=by
  intro e;subst e;have:=congrArg List.length h;simp[qfT]at this;omega
 have e:=qiP m h0 hm;rw[h,List.take_succ_eq_append_getElem hk]at e;have e':=List.append_inj' e rfl;refine⟨h0,e'.1.symm,?_⟩;have:=e'.2;simp at this;rw[this,uh _ (by omega)]
theorem lj (n:Int)(w:World)(h0:0≤n)(h1:n≤18446744073709551615) :
    Calls prog 208 #[.int .u64 n] w (qao n.toNat w):=by
 have hl:=jh n.toNat;obtain⟨i0,hi,hz0,hz1,hz2⟩:=info_parts Tryz.qan;have hmk:=run_make (P:=prog) w 118 5 i0 (.int .u8 0) underlying118 hi hz0 .i64 .i64 ((zB n.toNat).length:Int) ((zB n.toNat).length:Int) (by omega) (by omega) (by rw[hz2];omega) (by omega);have qjd:(w.alloc (.cells (madeCells #[.int .u8 0] (zB n.toNat).length) 5)).ownsRow w.heap.size 5 1 (.slice (some ⟨w.heap.size,0,none⟩) (zB n.toNat).length (zB n.toNat).length) (zB n.toNat).length (yL (zB n.toNat) (zB n.toNat).length):=by
  have:=World.ownsRow_lit (e:=5) (size:=1) (base:=w.heap.size) w (madeCells #[.int .u8 0] (zB n.toNat).length) (zB n.toNat).length (Nat.le_refl _) (by unfold maxLen;omega) (by simp[size_madeCells]);have e:(madeCells #[.int .u8 0] (zB n.toNat).length).toList=yL (zB n.toNat) (zB n.toNat).length:=by
   apply List.ext_getElem?;intro j;by_cases hj:j<(zB n.toNat).length <;> simp[madeCells,yL,Lib.byteCells,hj,Nat.mod_one]
  rw[← e];exact this
 have hb0:Below w.heap.size w (w.alloc (.cells (madeCells #[.int .u8 0] (zB n.toNat).length) 5)):=(Below.refl _ _).alloc (Nat.le_refl _) _;have hn:((n.toNat:Nat):Int)=n:=by omega
 have Hn:=QH hn;clear hn;rw[hz1]at hmk;clear hi hz0 hz1 hz2;go_enter func208,ntmps208;go_wp2_with (go_at_call 219;refine(oM n _ h0 h1).mono ?_;rintro e w' ⟨rfl,rfl⟩);go_loopw [0,4] (fun n' i wr=>qsU (zB n.toNat) w n' i wr) (fun _ i _=>(intOf i+1).toNat);case atStart=>exact⟨(zB n.toNat).length,n.toNat,rfl,by rw[Hn.out],by omega,by simp,Nat.le_refl _,qjd,hb0⟩
 case round =>
  obtain⟨k,m,rfl,rfl,hm,hd,hk,hown,hb⟩:=hrel;cases k with
  | zero =>
   have hcv:=run_convert_bytes_back (P:=prog) wr 118 9 5 ⟨w.heap.size,0,none⟩ (zB n.toNat).length (zB n.toNat) underlying118 underlying5 underlying9 (by
    intro j hj;have:=hown.cellAt j (by omega);rw[addr_add,Nat.zero_add,this];simp[yL,Lib.byteCells,List.getElem?_eq_getElem hj])
   have qwz:(convert 118 9 (.slice (some ⟨w.heap.size,0,none⟩) (zB n.toNat).length (zB n.toNat).length)).run prog wr=.ok (.string (str (zB n.toNat))) wr:=hcv;clear hcv;go_wp2;go_ret;exact⟨rfl,hb⟩
  | succ k =>
   have hx:=hown.cellAt k (by omega);rw[show(yL (zB n.toNat) (k+1))[k]?=some (.int .u8 0)from by simp[yL,List.getElem?_append]]at hx;have hf:=hown.frozenAt k;have hs:=hown.stored k (.int .u8 (((zB n.toNat)[k]'(by omega)).toNat:Int));rw[rG _ _ (by omega)]at hs;obtain⟨hs1,hs2⟩:=hs;obtain⟨hm0,hd',uM⟩:=qjc (zB n.toNat) m k hm (by omega) hd;have Hs1:=QH hs1;have Hs2:=QH hs2;have Hd:=QH hd';have Hl:=QH uM;clear hs1 hs2 hd' uM hd hown;go_wp2;have e:((m:Int)%256)=(((zB n.toNat)[k]'(by omega)).toNat:Int):=by rw[Hl.out];omega
   rw[e];exact⟨⟨k,m/256,rfl,rfl,by omega,Hd.out,by omega,Hs1.out,hb.grown Hs2.out (by have:=hb.size;omega) (fun j hj=>by cases hj;exact Nat.le_refl _)⟩,by simp[intOf]⟩
theorem qje(n:Nat)(w:World)(h:n<18446744073709551616):Calls prog 207 #[.int .u64 (n:Int)] w (qjb n w):=by
 have:=bu (n:Int) w (by omega) (by omega)
 rwa [Int.toNat_natCast]at this
theorem qcz(n:Nat)(w:World)(h:n<18446744073709551616):Calls prog 208 #[.int .u64 (n:Int)] w (qao n w):=by
 have:=lj (n:Int) w (by omega) (by omega)
 rwa [Int.toNat_natCast]at this
def bw (w:World)(b o:Nat)(ps:List ByteArray):Prop:=∀i (h:i<ps.length),w.cell? ⟨b,o+i,none⟩=some (.string ps[i])
def qw1 (s:ByteArray)(ps:List ByteArray)(w:World)(e:Ending)(w':World):Prop :=
 e=.returned (.string (str (bl s++flat ps)))∧Below w.heap.size w w'
def qc0 (s:ByteArray)(ps:List ByteArray)(w:World)(i:Value)(wr:World):Prop :=
 ∃k:Nat,k≤ps.length∧i=.int .i64 (k:Int)∧Lib.IsBuilder 230 5 w.heap.size w.heap.size (Lib.byteCells (bl s++flat (ps.take k))) wr∧Below w.heap.size w wr
theorem km (s:ByteArray)(b o c:Nat)(ps:List ByteArray)(w:World)(hb:b<w.heap.size)(hc:bw w b o ps)(hl:ps.length≤1000000)(hs:s.size+(flat ps).length≤140737488355328) :
    Calls prog 206 #[.string s,.slice (some ⟨b,o,none⟩) ps.length c] w (qw1 s ps w):=by
 have h0:Lib.IsBuilder 230 5 w.heap.size w.heap.size [] (w.alloc (.cells #[.pointer none,.slice none 0 0] 230)):=Lib.fresh_isBuilder 230 5 w;have b0:Below w.heap.size w (w.alloc (.cells #[.pointer none,.slice none 0 0] 230)):=(Below.refl _ w).alloc (Nat.le_refl _) _;go_enter func206,ntmps206;go_wp2_with (go_at_call 157;refine(Tryz.Builder_WriteString w.heap.size w.heap.size [] s _ h0 (by simp;omega) b0.size).mono ?_);rintro e W1 ⟨rfl,h1,b1⟩;have h1':Lib.IsBuilder 230 5 w.heap.size w.heap.size (Lib.byteCells (bl s)) W1:=by
  rw[List.nil_append,Lib.strCells_eq]at h1;exact Or.inr h1
 have b1':=b0.trans b1;clear h1 b1 h0 b0;go_wp2;go_loopw [12] (fun i wr=>qc0 s ps w i wr) (fun i _=>ps.length-(intOf i).toNat);case atStart=>exact⟨0,Nat.zero_le _,rfl,by simpa[flat]using h1',b1'⟩
 case round =>
  obtain⟨k,hk,rfl,hI,hB⟩:=hrel;by_cases hlt:k<ps.length
  ·have hcell:wr.cell? ⟨b,o+k,none⟩=some (.string ps[k]):=by
      rw[hB.cell (p:=⟨b,o+k,none⟩) hb];exact hc k hlt
   have wC:=qfW ps k hlt;have hfm:=nU ps (k+1);have hbl:=zq s;have hbp:=zq ps[k];have hlen:(Lib.byteCells (bl s++flat (ps.take k))).length+ps[k].size≤140737488355328:=by
    rw[Lib.byteCells_length];rw[wC]at hfm;simp at hfm ⊢;omega
   have Hfl:=QH wC;clear wC hfm hbl hbp;go_wp2_with (go_at_call 157;refine(Tryz.Builder_WriteString w.heap.size w.heap.size _ ps[k] _ hI hlen hB.size).mono ?_);rintro e W2 ⟨rfl,h2,b2⟩;have h2':Lib.IsBuilder 230 5 w.heap.size w.heap.size (Lib.byteCells (bl s++flat (ps.take (k+1)))) W2:=by
    rw[Lib.strCells_eq,← Lib.byteCells_append]at h2;rw[Hfl.out,← List.append_assoc];exact Or.inr h2
   have b2':=hB.trans b2;clear h2 b2 hI hB;go_wp2;go_roundw;case rel=>exact⟨k+1,by omega,by go_num,h2',b2'⟩
   case measure=>simp[intOf];omega
  ·have ee:k=ps.length:=by omega
   subst ee;rw[List.take_length]at hI;go_wp2_with (go_at_call 159;refine(Tryz.Builder_String_any w.heap.size w.heap.size _ _ hI hB.size).mono ?_);rintro e W2 ⟨rfl,b2⟩;have b2':=hB.trans b2;clear b2 hI hB;go_wp2;go_ret;exact⟨rfl,b2'⟩
theorem bz (ps:List ByteArray)(w:World):bw (w.alloc (.cells (ps.map Value.string).toArray 9)) w.heap.size 0 ps:=by
 intro i h;simp[World.cell?,World.alloc,-World.alloc_eq]
theorem rH (a b:ByteArray)(w:World):bw (w.alloc (.cells #[.string a,.string b] 9)) w.heap.size 0 [a,b]:=bz [a,b] w
theorem ll (a b c:ByteArray)(w:World):bw (w.alloc (.cells #[.string a,.string b,.string c] 9)) w.heap.size 0 [a,b,c]:=bz [a,b,c] w
def qap (s:ByteArray)(n:Nat)(w:World)(e:Ending)(w':World):Prop :=
 e=.returned (.string (str (bl s++zn n)))∧Below w.heap.size w w'
theorem qc1(s:ByteArray)(n:Int)(w:World)(h0:0≤n)(h1:n≤18446744073709551615)(hs:s.size≤140737488355000) :
    Calls prog 176 #[.string s,.int .u64 n] w (qap s n.toNat w):=by
 have hl:=jh n.toNat;go_enter func176,ntmps176;go_wp2_with (go_at_call 207;refine(bu n _ h0 h1).mono ?_);rintro e W1 ⟨rfl,b1⟩;go_wp2_with (go_at_call 208;refine(lj n _ h0 h1).mono ?_);rintro e W2 ⟨rfl,b2⟩;go_wp2_with (go_at_call 206;refine(km s W2.heap.size 0 2 [str [UInt8.ofNat (zB n.toNat).length],str (zB n.toNat)] _ ?_ (rH _ _ _) (by simp) ?_).mono ?_)
 ·simp
 ·simp[flat,zo];omega
 ·rintro e W3 ⟨rfl,b3⟩;have b':=q9 (zv (q9 b1 b2) _) b3;clear b1 b2 b3;go_wp2;go_ret;exact⟨by simp[flat,zo,zn],b'⟩
theorem jz (s:ByteArray)(n:Nat)(w:World)(h:n<18446744073709551616)(hs:s.size≤140737488355000) :
    Calls prog 176 #[.string s,.int .u64 (n:Int)] w (qap s n w):=by
 have:=qc1 s (n:Int) w (by omega) (by omega) hs
 rwa [Int.toNat_natCast]at this
theorem xL {w w1 w2:World}{r:Option Nat}(h:w.grownBy w1 r)(k:w1.grownBy w2 r):w.grownBy w2 r :=
 ⟨k.os.trans h.os,k.tape.trans h.tape,k.output.trans h.output,Nat.le_trans h.size k.size,
  fun i hi hr=>(k.block i (Nat.lt_of_lt_of_le hi h.size) hr).trans (h.block i hi hr)⟩
theorem vF (w:World)(r:Option Nat):w.grownBy w r:=⟨rfl,rfl,rfl,Nat.le_refl _,fun _ _ _=>rfl⟩
theorem qjf(l:List UInt8)(k:Nat)(h:k<l.length):val (l.take (k+1))=val (l.take k)*256+l[k].toNat:=by
 rw[List.take_succ_eq_append_getElem h,l8]
def Row (w:World)(g o:Nat)(l:List UInt8):Prop :=
 ∃cs fr,w.heap[g]?=some (.cells cs 5 fr)∧∀i (h:i<l.length),cs[o+i]?=some (.int .u8 (l[i].toNat:Int))
def qc2 (b g o cap:Nat)(l:List UInt8)(bad:Bool)(w:World):Prop :=
 w.heap[b]?=some (.cells #[.slice (some ⟨g,o,none⟩) l.length cap,.bool bad] 215 (0,0))∧Row w g o l∧l.length≤cap∧l.length≤140737488355328
def zh (b:Nat)(l:List UInt8)(bad:Bool)(w:World):Prop:=∃g o cap,qc2 b g o cap l bad w
theorem kK {w:World}{b:Nat}{o:Obj}(h:w.heap[b]?=some o):b<w.heap.size:=by
 rcases Nat.lt_or_ge b w.heap.size with h' | h'
 ·exact h'
 ·simp[Array.getElem?_eq_none h']at h
theorem Row.cell{w:World}{g o:Nat}{l:List UInt8}(h:Row w g o l)(i:Nat)(hi:i<l.length):w.cell? ⟨g,o+i,none⟩=some (.int .u8 (l[i].toNat:Int)):=by
 obtain⟨cs,fr,hg,hc⟩:=h;simp[World.cell?,hg,hc i hi]
theorem Row.keep{w w':World}{g o:Nat}{l:List UInt8}(h:Row w g o l)(hk:w'.heap[g]?=w.heap[g]?):Row w' g o l:=by
 obtain⟨cs,fr,hg,hc⟩:=h;exact⟨cs,fr,hk.trans hg,hc⟩
theorem Row.drop{w:World}{g o:Nat}{l:List UInt8}(h:Row w g o l)(n:Nat):Row w g (o+n) (l.drop n):=by
 obtain⟨cs,fr,hg,hc⟩:=h;refine⟨cs,fr,hg,fun i hi=>?_⟩;have:=hc (n+i) (by simp at hi;omega);rw[Nat.add_assoc,this];simp
theorem Row.take{w:World}{g o:Nat}{l:List UInt8}(h:Row w g o l)(n:Nat):Row w g o (l.take n):=by
 obtain⟨cs,fr,hg,hc⟩:=h;refine⟨cs,fr,hg,fun i hi=>?_⟩;have:=hc i (by simp at hi;omega);rw[this];simp
theorem Row.nil0{w:World}{g o:Nat}{l:List UInt8}(h:Row w g o l)(o':Nat):Row w g o' []:=by
 obtain⟨cs,fr,hg,_⟩:=h;exact⟨cs,fr,hg,fun i hi=>by simp at hi⟩
theorem zh.keep{b c:Nat}{l m:List UInt8}{x y:Bool}{w w':World}(h:zh b l x w)(k:zh c m y w)(hne:b≠c)(hg:w.grownBy w' (some c)):zh b l x w':=by
 obtain⟨g,o,cap,hb,hr,h1,h2⟩:=h;obtain⟨_,_,_,hc,_⟩:=k;have hgc:g≠c:=by
  intro e;subst e;obtain⟨cs,fr,rI,_⟩:=hr;rw[hc]at rI;simp at rI
 have wD:g<w.heap.size:=by obtain⟨cs,fr,rI,_⟩:=hr;exact kK rI
 exact⟨g,o,cap,(hg.block b (kK hb) (by simpa using hne)).trans hb,hr.keep (hg.block g wD (by simpa using hgc)),h1,h2⟩
theorem zh.below{b:Nat}{l:List UInt8}{x:Bool}{w w':World}(h:zh b l x w)(hg:Below w.heap.size w w'):zh b l x w':=by
 obtain⟨g,o,cap,hb,hr,h1,h2⟩:=h;have wD:g<w.heap.size:=by obtain⟨cs,fr,rI,_⟩:=hr;exact kK rI
 exact⟨g,o,cap,(hg.block b (kK hb)).trans hb,hr.keep (hg.block g wD),h1,h2⟩
theorem zh.lt{b:Nat}{l:List UInt8}{x:Bool}{w:World}(h:zh b l x w):b<w.heap.size:=by
 obtain⟨_,_,_,hb,_⟩:=h;exact kK hb
def qw2 (s:ByteArray)(w:World)(e:Ending)(w':World):Prop :=
 ∃b,e=.returned (.pointer (some ⟨b,0,none⟩))∧w.heap.size≤b∧zh b (bl s) false w'∧Below w.heap.size w w'
theorem rJ (s:ByteArray)(w:World)(hs:s.size≤140737488355328) :
    Calls prog 92 #[.string s] w (qw2 s w):=by
 have hcv:=Lib.run_convert_string_bytes (P:=prog) w 9 118 5 s underlying9 underlying118 underlying5;have hsz:=Lib.bytesWorld_size w 5 s;have hnew:=Lib.bytesWorld_at_new w 5 s;have hold:=Lib.bytesWorld_at_old w 5 s;have qjg:=grownCap_ge w s.size 0 5;have hcell:∀i (h:i<(bl s).length),(Lib.bytesCells w 5 s)[0+i]?=some (.int .u8 ((bl s)[i].toNat:Int)):=by
  intro i hi;have hi':i<s.size:=by rw[← zq];exact hi
  have:=Lib.bytesWorld_cell w 5 s i hi';simp[World.cell?,hnew]at this;rw[Nat.zero_add,this];simp[bl,hi']
 have hos:(Lib.bytesWorld w 5 s).os=w.os∧(Lib.bytesWorld w 5 s).tape=w.tape∧(Lib.bytesWorld w 5 s).output=w.output:=⟨rfl,rfl,rfl⟩;have nW:Below w.heap.size w (Lib.bytesWorld w 5 s):=⟨hos.1,hos.2.1,hos.2.2,by omega,fun k hk=>hold k hk⟩;have hlen:=zq s;generalize Lib.bytesWorld w 5 s=W1 at *;generalize grownCap w s.size 0 5=cap at *;have Hsz:=QH hsz;have q2j:=QH hnew;have qw3:=QH hcell;have q2k:=QH hlen;clear hsz hnew hcell hold hos hlen;go_enter func92,ntmps92;go_wp2;go_ret;have Hl:=q2k.out;have hW:(W1.alloc (.cells #[.slice (some ⟨w.heap.size,0,none⟩) s.size cap,.bool false] 215)).heap[W1.heap.size]?=some (.cells #[.slice (some ⟨w.heap.size,0,none⟩) s.size cap,.bool false] 215 (0,0)):=by
  show(W1.heap.push _)[W1.heap.size]?=_;simp
 have hO:=Below.heap_alloc W1 (.cells #[.slice (some ⟨w.heap.size,0,none⟩) s.size cap,.bool false] 215) w.heap.size (by have:=Hsz.out;omega);refine⟨W1.heap.size,rfl,by have:=Hsz.out;omega,⟨w.heap.size,0,cap,by rw[Hl];exact hW,⟨_,_,hO.trans q2j.out,qw3.out⟩,by omega,by omega⟩,zv nW _⟩
theorem qc3(b:Nat)(l:List UInt8)(w:World)(h:zh b l false w) :
    Calls prog 204 #[.pointer (some ⟨b,0,none⟩)] w fun e w'=>e=.returned (.bool true)∧w=w':=by
 obtain⟨g,o,cap,hb,_⟩:=h;have h1:w.cell? ⟨b,1,none⟩=some (.bool false):=by simp[World.cell?,hb]
 clear hb;go_enter func204,ntmps204;go_wp2;go_ret;exact⟨rfl,rfl⟩
theorem qjh(b:Nat)(l:List UInt8)(w:World)(h:zh b l true w) :
    Calls prog 204 #[.pointer (some ⟨b,0,none⟩)] w fun e w'=>e=.returned (.bool false)∧w=w':=by
 obtain⟨g,o,cap,hb,_⟩:=h;have h1:w.cell? ⟨b,1,none⟩=some (.bool true):=by simp[World.cell?,hb]
 clear hb;go_enter func204,ntmps204;go_wp2;go_ret;exact⟨rfl,rfl⟩
def tailOff(o len n:Nat):Nat:=if len=n then o else o+n
def qsW (b g o:Nat)(l:List UInt8)(n:Nat)(x:Bool)(w:World)(e:Ending)(w':World):Prop :=
 e=.returned (.tuple #[.slice (some ⟨g,o,none⟩) n n,.bool true])∧qc2 b g (tailOff o l.length n) (l.length-n) (l.drop n) x w'∧w.grownBy w' (some b)∧Row w' g o (l.take n)
theorem qc4(g o len cap:Nat)(n:Int)(h0:0≤n)(hn:n.toNat≤cap)(w:World) :
    (Instr.slice 118 (.slice (some ⟨g,o,none⟩) len cap) none (some (.int .u64 n)) (some (.int .u64 n))).run prog w=.ok (.slice (some ⟨g,o,none⟩) n.toNat n.toNat) w:=by
 have h1:n≤(cap:Int):=by omega
 rw[run_slice_any (P:=prog) w 118 (some ⟨g,o,none⟩) len cap underlying118];simp[Instr.sliceBounds,run_sliceBound,h0,h1,go_sem];intro h;omega
theorem qc5(g o len cap:Nat)(n:Int)(h0:0≤n)(hn:n.toNat≤len)(hc:len≤cap)(w:World) :
    (Instr.slice 118 (.slice (some ⟨g,o,none⟩) len cap) (some (.int .u64 n)) (some (.int .i64 (len:Int))) (some (.int .i64 (len:Int)))).run prog w=.ok (.slice (some ⟨g,tailOff o len n.toNat,none⟩) (len-n.toNat) (len-n.toNat)) w:=by
 have h1:n≤(len:Int):=by omega
 have h2:(len:Int)≤(cap:Int):=by omega
 rw[run_slice_any (P:=prog) w 118 (some ⟨g,o,none⟩) len cap underlying118];unfold tailOff;by_cases hl:len=n.toNat
 ·simp[Instr.sliceBounds,run_sliceBound,h0,h1,hc,go_sem];rw[if_pos hl,if_pos hl]
 ·simp[Instr.sliceBounds,run_sliceBound,h0,h1,hc,hl,go_sem]
theorem qji{w:World}{g o:Nat}{l:List UInt8}(h:Row w g o l)(n:Nat):Row w g (tailOff o l.length n) (l.drop n):=by
 unfold tailOff;split
 ·have e:l.drop n=[]:=by simp;omega
  rw[e];exact h.nil0 o
 ·exact h.drop n
theorem kL (b g o cap:Nat)(l:List UInt8)(x:Bool)(n:Int)(w:World)(hR:qc2 b g o cap l x w)(h0:0≤n)(hn:n.toNat≤l.length) :
    Calls prog 205 #[.pointer (some ⟨b,0,none⟩),.int .u64 n] w (qsW b g o l n.toNat x w):=by
 obtain⟨hb,hr,hc,hl⟩:=hR;have h1:w.cell? ⟨b,0,none⟩=some (.slice (some ⟨g,o,none⟩) l.length cap):=by simp[World.cell?,hb]
 have h2:w.frozen? ⟨b,0,none⟩=false:=by simp[World.frozen?,hb]
 have hs1:=qc4 g o l.length cap n h0 (by omega) w;have hs2:=qc5 g o l.length cap n h0 hn hc w;have ht:¬ ((l.length:Int)<n):=by omega
 have hw:=heap_setCell_same w b 0 _ 215 (.slice (some ⟨g,tailOff o l.length n.toNat,none⟩) (l.length-n.toNat) (l.length-n.toNat)) hb;have hgr:w.grownBy (w.setCell ⟨b,0,none⟩ (.slice (some ⟨g,tailOff o l.length n.toNat,none⟩) (l.length-n.toNat) (l.length-n.toNat))) (some b) :=
  ⟨rfl,rfl,rfl,by simp[World.setCell],fun k _ hk=>Below.heap_setCell _ _ _ _ (fun e=>hk (by simp[e]))⟩
 have hgb:g≠b:=by
  intro e;subst e;obtain⟨cs,fr,rI,_⟩:=hr;rw[hb]at rI;simp at rI
 have hgk:=Below.heap_setCell w ⟨b,0,none⟩ (.slice (some ⟨g,tailOff o l.length n.toNat,none⟩) (l.length-n.toNat) (l.length-n.toNat)) g hgb;have hr1:=(qji hr n.toNat).keep hgk;have hr2:=(hr.take n.toNat).keep hgk;have qjj:qc2 b g (tailOff o l.length n.toNat) (l.length-n.toNat) (l.drop n.toNat) x (w.setCell ⟨b,0,none⟩ (.slice (some ⟨g,tailOff o l.length n.toNat,none⟩) (l.length-n.toNat) (l.length-n.toNat))):=by
  refine⟨?_,hr1,by simp,by simp;omega⟩;rw[hw];simp
 have Hf:=QH qjj;have Hg:=QH hgr;have Hr2:=QH hr2;clear qjj hgr hr1 hr2 hgk hw hb;go_enter func205,ntmps205;go_wp2;go_ret2;exact⟨rfl,Hf.out,Hg.out,Hr2.out⟩
def qjk (w:World)(e:Ending)(w':World):Prop:=e=.returned (.tuple #[.slice none 0 0,.bool false])∧w=w'
theorem rK (b g o cap:Nat)(l:List UInt8)(x:Bool)(n:Int)(w:World)(hR:qc2 b g o cap l x w)(hn:(l.length:Int)<n) :
    Calls prog 205 #[.pointer (some ⟨b,0,none⟩),.int .u64 n] w (qjk w):=by
 obtain⟨hb,_,_,hl⟩:=hR;have h1:w.cell? ⟨b,0,none⟩=some (.slice (some ⟨g,o,none⟩) l.length cap):=by simp[World.cell?,hb]
 clear hb;go_enter func205,ntmps205;go_wp2;go_ret2;exact⟨rfl,rfl⟩
def oN (b:Nat)(l:List UInt8)(x:Bool)(w:World)(e:Ending)(w':World):Prop :=
 w.grownBy w' (some b) ∧
  ((∃n r,rdNum l=some (n,r)∧e=.returned (.tuple #[.int .u64 (n:Int),.bool true])∧zh b r x w') ∨
   (rdNum l=none∧e=.returned (.tuple #[.int .u64 0,.bool false])∧∃m,zh b m x w'))
theorem qfY(b:Nat)(x:Bool)(w:World)(h:zh b [] x w) :
    Calls prog 175 #[.func (.func 205) #[.pointer (some ⟨b,0,none⟩)] #[]] w (oN b [] x w):=by
 obtain⟨g,o,cap,hR⟩:=h;have hR':zh b [] x w:=⟨g,o,cap,hR⟩;go_enter func175,ntmps175;go_wp2_with (go_at_call 205;refine(rK b g o cap [] x 1 _ hR (by simp)).mono ?_;rintro e w' ⟨rfl,rfl⟩);go_ret2;exact⟨vF _ _,.inr ⟨rfl,rfl,[],hR'⟩⟩
theorem Row.cell0{w:World}{g o:Nat}{k:UInt8}{r:List UInt8}(h:Row w g o (k::r)):w.cell? ⟨g,o,none⟩=some (.int .u8 (k.toNat:Int)):=by
 have:=h.cell 0 (by simp);simpa using this
theorem qng(b:Nat)(k:UInt8)(r:List UInt8)(x:Bool)(w:World)(h:zh b (k::r) x w)(hk:8<k.toNat) :
    Calls prog 175 #[.func (.func 205) #[.pointer (some ⟨b,0,none⟩)] #[]] w (oN b (k::r) x w):=by
 obtain⟨g,o,cap,hR⟩:=h;have jY:(8:Int)<(k.toNat:Int):=by omega
 have hnone:rdNum (k::r)=none:=by simp[rdNum,hk]
 have Hn:=QH hnone;clear hnone;go_enter func175,ntmps175;go_wp2_with (go_at_call 205;refine(kL b g o cap (k::r) x 1 _ hR (by decide) (by simp)).mono ?_);rintro e w1 ⟨rfl,h1,h2,h3⟩;have hc:w1.cell? ⟨g,o,none⟩=some (.int .u8 (k.toNat:Int)):=Row.cell0 (r:=[]) h3;have H1:=QH h1;have H2:=QH h2;clear h1 h2 h3;go_wp2;go_ret2;exact⟨H2.out,.inr ⟨Hn.out,rfl,r,⟨_,_,_,H1.out⟩⟩⟩
theorem qfZ(b:Nat)(k:UInt8)(r:List UInt8)(x:Bool)(w:World)(h:zh b (k::r) x w)(hk:k.toNat≤8)(hr:r.length<k.toNat) :
    Calls prog 175 #[.func (.func 205) #[.pointer (some ⟨b,0,none⟩)] #[]] w (oN b (k::r) x w):=by
 obtain⟨g,o,cap,hR⟩:=h;have jY:¬ (8:Int)<(k.toNat:Int):=by omega
 have hnone:rdNum (k::r)=none:=by simp[rdNum,Nat.not_lt.2 hk,hr]
 have Hn:=QH hnone;clear hnone;go_enter func175,ntmps175;go_wp2_with (go_at_call 205;refine(kL b g o cap (k::r) x 1 _ hR (by decide) (by simp)).mono ?_);rintro e w1 ⟨rfl,h1,h2,h3⟩;have hc:w1.cell? ⟨g,o,none⟩=some (.int .u8 (k.toNat:Int)):=Row.cell0 (r:=[]) h3;have H1:=QH h1;have H2:=QH h2;clear h1 h2 h3;go_wp2_with (go_at_call 205;refine(rK b g _ _ r x _ _ H1.out (by omega)).mono ?_;rintro e w' ⟨rfl,rfl⟩);go_ret2;exact⟨H2.out,.inr ⟨Hn.out,rfl,r,⟨_,_,_,H1.out⟩⟩⟩
theorem qjl(b:Nat)(k:UInt8)(r:List UInt8)(x:Bool)(w:World)(h:zh b (k::r) x w)(hk:k.toNat≤8)(hr:k.toNat≤r.length)(h0:(r.take k.toNat).head? = some 0) :
    Calls prog 175 #[.func (.func 205) #[.pointer (some ⟨b,0,none⟩)] #[]] w (oN b (k::r) x w):=by
 obtain⟨g,o,cap,hR⟩:=h;have jY:¬ (8:Int)<(k.toNat:Int):=by omega
 have hnone:rdNum (k::r)=none:=by simp[rdNum,Nat.not_lt.2 hk,Nat.not_lt.2 hr];exact h0
 have Hn:=QH hnone;have hkp:(0:Int)<(k.toNat:Int):=by
  have:k.toNat≠0:=by
   intro e;rw[e]at h0;simp at h0
  omega
 have H0:=QH h0;clear hnone h0;go_enter func175,ntmps175;go_wp2_with (go_at_call 205;refine(kL b g o cap (k::r) x 1 _ hR (by decide) (by simp)).mono ?_);rintro e w1 ⟨rfl,h1,h2,h3⟩;have hc:w1.cell? ⟨g,o,none⟩=some (.int .u8 (k.toNat:Int)):=Row.cell0 (r:=[]) h3;obtain⟨o1,c1,h1⟩:∃o1 c1,qc2 b g o1 c1 r x w1:=⟨_,_,h1⟩;have H1:=QH h1;have H2:=QH h2;clear h1 h2 h3;go_wp2_with (go_at_call 205;refine(kL b g o1 c1 r x (k.toNat:Int) _ H1.out (by omega) (by omega)).mono ?_);rintro e w2 ⟨rfl,h1,h2,h3⟩;rw[Int.toNat_natCast]at h1 h3;have hc0:w2.cell? ⟨g,o1,none⟩=some (.int .u8 0):=by
  have e0:=H0.out;cases hd:r.take k.toNat with
  | nil=>rw[hd]at e0;simp at e0
  | cons y q =>
   rw[hd]at e0 h3;simp at e0;subst e0;exact Row.cell0 h3
 have H3:=QH h1;have H4:=QH h2;clear h1 h2 h3 hc;go_wp2;go_ret2;exact⟨xL H2.out H4.out,.inr ⟨Hn.out,rfl,_,⟨_,_,_,H3.out⟩⟩⟩
theorem qnh(v z:Nat)(hv:v<72057594037927936)(hz:z<256):bits BinOp.or IntKind.u64 ((v:Int)*256) (z:Int)=((v*256+z:Nat):Int):=by
 have e:(v:Int)*256=((v*256:Nat):Int):=by omega
 rw[e,u64_or_nat _ _ (by omega) (by omega)];have:=Nat.shiftLeft_add_eq_or_of_lt (i:=8) (b:=z) (by omega) v;rw[Nat.shiftLeft_eq,show(2:Nat) ^ 8=256 from rfl]at this;rw[← this]
def qjm (d:List UInt8)(n i:Value):Prop:=∃j:Nat,j≤d.length∧i=.int .i64 (j:Int)∧n=.int .u64 (val (d.take j):Int)
theorem qjn(b:Nat)(k:UInt8)(r:List UInt8)(x:Bool)(w:World)(h:zh b (k::r) x w)(hk:k.toNat≤8)(hr:k.toNat≤r.length)(h0:¬ (r.take k.toNat).head? = some 0) :
    Calls prog 175 #[.func (.func 205) #[.pointer (some ⟨b,0,none⟩)] #[]] w (oN b (k::r) x w):=by
 obtain⟨g,o,cap,hR⟩:=h;have jY:¬ (8:Int)<(k.toNat:Int):=by omega
 have hsome:rdNum (k::r)=some (val (r.take k.toNat),r.drop k.toNat):=by simp[rdNum,Nat.not_lt.2 hk,Nat.not_lt.2 hr,h0]
 have Hn:=QH hsome;have H0:=QH h0;clear hsome h0;go_enter func175,ntmps175;go_wp2_with (go_at_call 205;refine(kL b g o cap (k::r) x 1 _ hR (by decide) (by simp)).mono ?_);rintro e w1 ⟨rfl,h1,h2,h3⟩;have hc:w1.cell? ⟨g,o,none⟩=some (.int .u8 (k.toNat:Int)):=Row.cell0 (r:=[]) h3;obtain⟨o1,c1,h1⟩:∃o1 c1,qc2 b g o1 c1 r x w1:=⟨_,_,h1⟩;have H1:=QH h1;have H2:=QH h2;clear h1 h2 h3;go_wp2_with (go_at_call 205;refine(kL b g o1 c1 r x (k.toNat:Int) _ H1.out (by omega) (by omega)).mono ?_);rintro e w2 ⟨rfl,h1,h2,h3⟩;rw[Int.toNat_natCast]at h1 h3;have H3:=QH h1;have H4:=QH h2;have hlen:(r.take k.toNat).length=k.toNat:=by simp;omega
 obtain⟨d,hd⟩:∃d,d=r.take k.toNat:=⟨_,rfl⟩;have hE:Hid (rdNum (k::r)=some (val d,r.drop k.toNat)):=by rw[hd];exact Hn
 have hZ:Hid (¬ d.head? = some 0):=by rw[hd];exact H0
 rw[← hd]at hlen h3;clear hd Hn H0 h1 h2 hc hR;have hkb:k.toNat≤8:=hk;cases d with
 | nil =>
  have hk0:¬ (0:Int)<(k.toNat:Int):=by simp at hlen;omega
  have Hl:=QH hlen;have H5:=QH h3;clear hlen h3 hZ;go_wp2;go_loop [7,47] (fun n i=>qjm [] n i) (fun _ i=>k.toNat-(intOf i).toNat);case atStart=>exact⟨0,Nat.zero_le _,rfl,rfl⟩
  case round =>
   obtain⟨j,hj,rfl,rfl⟩:=hrel;have hlt:¬ j<k.toNat:=by omega
   go_wp2;go_ret2;exact⟨xL H2.out H4.out,.inl ⟨val [],_,hE.out,by simp,_,_,_,H3.out⟩⟩
 | cons y q =>
  have hk0:(0:Int)<(k.toNat:Int):=by simp at hlen;omega
  have hc:=Row.cell0 h3;have hy:((y.toNat:Int) == 0)=false:=by
   have hz:=hZ.out;simp at hz;have:y.toNat≠0:=fun e=>hz (by apply UInt8.toNat_inj.1;simpa using e);simp;omega
  have Hl:=QH hlen;have H5:=QH h3;clear hlen h3 hZ;go_wp2;go_loop [7,47] (fun n i=>qjm (y::q) n i) (fun _ i=>k.toNat-(intOf i).toNat);case atStart=>exact⟨0,Nat.zero_le _,rfl,rfl⟩
  case round =>
   obtain⟨j,hj,rfl,rfl⟩:=hrel;by_cases hlt:j<k.toNat
   ·have hl:=Hl.out;have hc:=H5.out.cell j (by omega);have hb:val ((y::q).take j)<72057594037927936:=by
     have a:=qiR ((y::q).take j);have b:256 ^ ((y::q).take j).length≤256 ^ 7:=Nat.pow_le_pow_right (by omega) (by rw[List.length_take];omega);have e:(256:Nat) ^ 7=72057594037927936:=by decide
     omega
    have hs:=qjf (y::q) j (by omega);have Hs:=QH hs;generalize val ((y::q).take j)=v at *;generalize (y::q)[j]=z at *;have hzb:z.toNat<256:=z.toNat_lt;clear hs;go_wp2;rw[qnh v z.toNat hb hzb];exact⟨⟨j+1,by omega,by go_num,by rw[Hs.out]⟩,by simp[intOf];omega⟩
   ·have hl:=Hl.out;have hjl:j=(y::q).length:=by omega
    have ht:val ((y::q).take j)=val (y::q):=by rw[hjl,List.take_length]
    have Ht:=QH ht;clear ht hjl hl;go_wp2;go_ret2;exact⟨xL H2.out H4.out,.inl ⟨val (y::q),_,hE.out,by rw[← Ht.out];rfl,_,_,_,H3.out⟩⟩
theorem qeA(b:Nat)(l:List UInt8)(x:Bool)(w:World)(h:zh b l x w) :
    Calls prog 175 #[.func (.func 205) #[.pointer (some ⟨b,0,none⟩)] #[]] w (oN b l x w):=by
 cases l with
 | nil=>exact qfY b x w h
 | cons k r =>
  by_cases hk:k.toNat≤8
  ·by_cases hr:k.toNat≤r.length
   ·by_cases h0:(r.take k.toNat).head? = some 0
    ·exact qjl b k r x w h hk hr h0
    ·exact qjn b k r x w h hk hr h0
   ·exact qfZ b k r x w h hk (by omega)
  ·exact qng b k r x w h (by omega)
theorem zh.flag{b:Nat}{l:List UInt8}{x:Bool}{w:World}(h:zh b l x w)(y:Bool):zh b l y (w.setCell ⟨b,1,none⟩ (.bool y)):=by
 obtain⟨g,o,cap,hb,hr,h1,h2⟩:=h;have hgb:g≠b:=by
  intro e;subst e;obtain⟨cs,fr,rI,_⟩:=hr;rw[hb]at rI;simp at rI
 have hw:=heap_setCell_same w b 1 _ 215 (.bool y) hb;exact⟨g,o,cap,by rw[hw];simp,hr.keep (Below.heap_setCell w _ _ g hgb),h1,h2⟩
theorem zh.dA(b:Nat)(w:World)(v:Value):w.grownBy (w.setCell ⟨b,1,none⟩ v) (some b) :=
 ⟨rfl,rfl,rfl,by simp[World.setCell],fun k _ hk=>Below.heap_setCell _ _ _ _ (fun e=>hk (by simp[e]))⟩
theorem zh.cell1{b:Nat}{l:List UInt8}{x:Bool}{w:World}(h:zh b l x w):w.cell? ⟨b,1,none⟩=some (.bool x)∧w.frozen? ⟨b,1,none⟩=false:=by
 obtain⟨g,o,cap,hb,_⟩:=h;exact⟨by simp[World.cell?,hb],by simp[World.frozen?,hb]⟩
def iN (b:Nat)(l:List UInt8)(w:World)(e:Ending)(w':World):Prop :=
 w.grownBy w' (some b) ∧
  ((∃n r,rdNum l=some (n,r)∧e=.returned (.int .u64 (n:Int))∧zh b r false w') ∨
   (rdNum l=none∧e=.returned (.int .u64 0)∧∃m,zh b m true w'))
theorem qar(b:Nat)(l:List UInt8)(w:World)(h:zh b l false w) :
    Calls prog 174 #[.pointer (some ⟨b,0,none⟩),.func (.func 175) #[] #[]] w (iN b l w):=by
 go_enter func174,ntmps174;go_wp2_with (go_at_call 204;refine(qc3 b l _ h).mono ?_;rintro e w' ⟨rfl,rfl⟩);go_wp2_with (go_at_call 175;refine(qeA b l false _ h).mono ?_);rintro e w1 ⟨hg,⟨n,r,hn,rfl,hr⟩|⟨hn,rfl,m,hm⟩⟩
 ·have Hn:=QH hn;have Hg:=QH hg;obtain⟨hc,hf⟩:=hr.cell1;have Hr:=QH (hr.flag false);clear hn hg hr;go_wp2;go_ret;exact⟨xL Hg.out (zh.dA _ _ _),.inl ⟨n,r,Hn.out,rfl,Hr.out⟩⟩
 ·have Hn:=QH hn;have Hg:=QH hg;obtain⟨hc,hf⟩:=hm.cell1;have Hr:=QH (hm.flag true);clear hn hg hm;go_wp2;go_ret;exact⟨xL Hg.out (zh.dA _ _ _),.inr ⟨Hn.out,rfl,m,Hr.out⟩⟩
theorem qas(b:Nat)(l:List UInt8)(w:World)(h:zh b l true w) :
    Calls prog 174 #[.pointer (some ⟨b,0,none⟩),.func (.func 175) #[] #[]] w fun e w'=>e=.returned (.int .u64 0)∧w=w':=by
 go_enter func174,ntmps174;go_wp2_with (go_at_call 204;refine(qjh b l _ h).mono ?_;rintro e w' ⟨rfl,rfl⟩);go_ret;exact⟨rfl,rfl⟩
theorem uN (b:Nat)(l:List UInt8)(w:World)(h:zh b l false w):Calls prog 127 #[.pointer (some ⟨b,0,none⟩)] w (iN b l w):=by
 go_enter func127,ntmps127;go_wp2_with (go_at_call 174;refine(qar b l _ h).mono ?_);rintro e w1 ⟨hg,⟨n,r,hn,rfl,hr⟩|⟨hn,rfl,hm⟩⟩
 ·have H:Hid (iN b l w (.returned (.int .u64 (n:Int))) w1):=⟨hg,.inl ⟨n,r,hn,rfl,hr⟩⟩;clear hg hn hr;go_wp2;go_ret;exact H.out
 ·have H:Hid (iN b l w (.returned (.int .u64 0)) w1):=⟨hg,.inr ⟨hn,rfl,hm⟩⟩;clear hg hn hm;go_wp2;go_ret;exact H.out
theorem lp (b:Nat)(l:List UInt8)(w:World)(h:zh b l true w):Calls prog 127 #[.pointer (some ⟨b,0,none⟩)] w fun e w'=>e=.returned (.int .u64 0)∧w=w':=by
 go_enter func127,ntmps127;go_wp2_with (go_at_call 174;refine(qas b l _ h).mono ?_;rintro e w' ⟨rfl,rfl⟩);go_ret;exact⟨rfl,rfl⟩
end Go.Proofs.YtdagdllomphidaaGreatDoor.wi
namespace Go.Proofs.YtdagdllomphidaaGreatDoor.ib
open _root_.Go.Proofs.Tryz Go Go.RowKit Go.ChangeShapes Go.WideShapes Go.Deep
def qD (x:Int):Prop:=-9223372036854775808≤x∧x≤9223372036854775807
def qJ (w:World)(a:Option Addr)(zs:List Int):Prop :=
 ∀i (h:i<zs.length),∃b o,a=some ⟨b,o,none⟩∧b<w.heap.size∧w.cell? ⟨b,o+i,none⟩=some (.int .i64 zs[i])∧qD zs[i]
theorem qJ.below{w w':World}{a:Option Addr}{zs:List Int}(h:qJ w a zs)(hb:Below w.heap.size w w'):qJ w' a zs:=by
 intro i hi;obtain⟨b,o,h1,h2,h3,h4⟩:=h i hi;exact⟨b,o,h1,Nat.lt_of_lt_of_le h2 hb.size,by rw[hb.cell (p:=⟨b,o+i,none⟩) h2];exact h3,h4⟩
theorem qJ.nil(w:World)(a:Option Addr):qJ w a []:=fun i h=>absurd h (by simp)
theorem qJ.mem{w:World}{a:Option Addr}{zs:List Int}(h:qJ w a zs):∀z∈zs,qD z:=by
 intro z hz;obtain⟨i,hi,rfl⟩:=List.getElem_of_mem hz;obtain⟨_,_,_,_,_,h4⟩:=h i hi;exact h4
theorem qJ.take{w:World}{a:Option Addr}{zs:List Int}(h:qJ w a zs)(n:Nat):qJ w a (zs.take n):=fun i hi=>by
 have:=h i (by simp at hi;omega);simpa using this
def zu (w:World)(B:Nat)(v:Value)(zs:List Int):Prop:=w.ownsRow B 3 1 v zs.length (zs.map (Value.int .i64))
theorem vG:(prog.info? 3).map (fun i=>(i.zero,i.size,i.bytes))=some (some (.int .i64 0),1,8):=by kernel_rfl
theorem zu.view{w:World}{B:Nat}{v:Value}{zs:List Int}(h:zu w B v zs)(hz:∀z∈zs,qD z):∃a c,v=.slice a zs.length c∧qJ w a zs∧∀b o,a=some ⟨b,o,none⟩→B≤b∧b<w.heap.size:=by
 rcases h.2 with⟨rfl,h0⟩|⟨g,cap,cur,rfl,hg,hh,hcc,hm,hcs,xt⟩
 ·obtain rfl:zs=[]:=List.length_eq_zero_iff.1 h0;exact⟨none,0,rfl,(fun i h=>by simp at h),fun b o h=>by cases h⟩
 ·refine⟨some ⟨g,0,none⟩,cap,rfl,fun i hi=>⟨g,0,rfl,(Array.getElem?_eq_some_iff.1 hh).1,?_,hz _ (List.getElem_mem hi)⟩,fun b o h=>?_⟩
  ·rw[Nat.zero_add,cell_of_row w g i cur 3 (0,0) hh];have h3:(cur.toList.take (zs.length*1))[i]?=some (.int .i64 zs[i]):=by rw[xt];simp[hi]
   rw[List.getElem?_take]at h3;split at h3
   ·simpa using h3
   ·cases h3
  ·simp only[Option.some.injEq,Addr.mk.injEq,and_true]at h;obtain⟨rfl,_⟩:=h;exact⟨hg,(Array.getElem?_eq_some_iff.1 hh).1⟩
theorem fQ {α:Type}{p:Nat→α→Prop}:∀(n:Nat),(∀i,i<n→∃x,p i x)→∃l:List α,l.length=n∧∀i (h:i<l.length),p i l[i]
 | 0,_=>⟨[],rfl,fun i h=>absurd h (by simp)⟩
 | n+1,h=>by
  obtain⟨l,hl,hp⟩:=fQ n (fun i hi=>h i (by omega));obtain⟨x,hx⟩:=h n (by omega);refine⟨l++[x],by simp[hl],fun i hi=>?_⟩;by_cases hin:i<l.length
  ·rw[List.getElem_append_left hin];exact hp i hin
  ·have:i=l.length:=by simp at hi;omega
   subst this;rw[List.getElem_append_right (Nat.le_refl _)];simpa[hl]using hx
section
variable {H:Type} {enc:TypeId × Value→H} {w:World} {held:Bool} {a:Option Addr} {l c:Nat} {d:DataW H} {pl:List MemPlace}
end
end Go.Proofs.YtdagdllomphidaaGreatDoor.ib
namespace Go.Proofs.YtdagdllomphidaaGreatDoor.ib
open _root_.Go.Proofs.Tryz Go Go.RowKit
def qg (w:World)(g:Nat)(t:TypeId)(cs:Array Value):Prop:=w.heap[g]?=some (.cells cs t (0,0))
section
variable {w w':World} {g:Nat} {t:TypeId} {cs:Array Value}
theorem qg.lt(h:qg w g t cs):g<w.heap.size:=by
 unfold qg at h;exact(Array.getElem?_eq_some_iff.1 h).1
theorem qg.cell(h:qg w g t cs)(i:Nat):w.cell? ⟨g,i,none⟩=cs[i]? :=cell_of_row w g i cs t (0,0) h
theorem qg.frozen(h:qg w g t cs)(i:Nat):w.frozen? ⟨g,i,none⟩=false:=by
 unfold qg at h;simp[World.frozen?,h]
theorem qg.new(w:World)(t:TypeId)(cs:Array Value):qg (w.alloc (.cells cs t)) w.heap.size t cs:=heap_alloc_new w _
theorem qg.of_block(h:qg w g t cs)(hb:w'.heap[g]?=w.heap[g]?):qg w' g t cs:=hb.trans h
theorem qg.below(h:qg w g t cs)(hb:Below w.heap.size w w'):qg w' g t cs:=h.of_block (hb.block _ h.lt)
theorem qg.qo(h:qg w g t cs)(i:Nat)(u:Value):qg (w.setCell ⟨g,i,none⟩ u) g t (cs.setIfInBounds i u):=heap_setCell_same w g i cs t u h
end
structure qB(S:Nat→Prop)(w w':World):Prop where
 os:w'.os=w.os
 tape:w'.tape=w.tape
 output:w'.output=w.output
 size:w.heap.size≤w'.heap.size
 block:∀k,k<w.heap.size→¬ S k→w'.heap[k]?=w.heap[k]?
section
variable {S S':Nat→Prop} {a b c w w':World}
theorem qB.refl(S:Nat→Prop)(w:World):qB S w w:=⟨rfl,rfl,rfl,Nat.le_refl _,fun _ _ _=>rfl⟩
theorem qB.trans(h:qB S a b)(k:qB S' b c)(hs:∀i,S' i→S i∨a.heap.size≤i):qB S a c :=
 ⟨k.os.trans h.os,k.tape.trans h.tape,k.output.trans h.output,Nat.le_trans h.size k.size,fun i hi hn=>by
  refine(k.block i (Nat.lt_of_lt_of_le hi h.size) (fun e=>?_)).trans (h.block i hi hn);rcases hs i e with h1|h1
  ·exact hn h1
  ·omega⟩
theorem qB.mono(h:qB S w w')(hs:∀i,S i→S' i):qB S' w w':=⟨h.os,h.tape,h.output,h.size,fun k hk hn=>h.block k hk (fun e=>hn (hs k e))⟩
theorem qB.of_below(h:Below w.heap.size w w'):qB S w w':=⟨h.os,h.tape,h.output,h.size,fun k hk _=>h.block k hk⟩
theorem qB.drew(h:qB S a w):qB S a w.drew:=⟨h.os,h.tape,h.output,h.size,h.block⟩
theorem qB.drewN(h:qB S a w)(n:Nat):qB S a (w.drewN n):=⟨h.os,h.tape,h.output,h.size,h.block⟩
theorem qB.alloc(h:qB S a w)(o:Obj):qB S a (w.alloc o) :=
 h.trans (S':=fun _=>False) ⟨rfl,rfl,rfl,by simp,fun k hk _=>Below.heap_alloc _ _ _ hk⟩ (fun _ e=>e.elim)
theorem qB.setCell(h:qB S a w)(p:Addr)(u:Value)(hp:S p.block∨a.heap.size≤p.block):qB S a (w.setCell p u) :=
 h.trans (S':=fun k=>k=p.block) ⟨rfl,rfl,rfl,by simp[World.setCell],fun k _ hn=>Below.heap_setCell _ _ _ _ hn⟩ (fun i e=>by rw[e];exact hp)
theorem qB.below{B:Nat}(h:qB S a w)(hs:∀i,S i→B≤i)(hB:B≤a.heap.size):Below B a w :=
 ⟨h.os,h.tape,h.output,h.size,fun k hk=>h.block k (by omega) (fun e=>by have:=hs k e;omega)⟩
end
end Go.Proofs.YtdagdllomphidaaGreatDoor.ib
namespace Go.Proofs.YtdagdllomphidaaGreatDoor.ib
open _root_.Go.Proofs.Tryz Go Go.RowKit
def qh (cs:List Int):Array Value:=(cs.map (Value.int .i64)).toArray
theorem kD (cs:List Int)(i:Nat)(h:i<cs.length):(qh cs)[i]?=some (.int .i64 cs[i]):=by simp[qh,h]
theorem jH (cs:List Int):(qh cs).size=cs.length:=by simp[qh]
theorem lq (cs:List Int)(i:Nat)(v:Int):(qh cs).setIfInBounds i (.int .i64 v)=qh (cs.set i v):=by
 unfold qh;rw[List.setIfInBounds_toArray,List.map_set]
theorem qc7(n:Nat):madeCells #[.int .i64 0] n=qh (List.replicate n 0):=by
 apply Array.ext
 ·simp[size_madeCells,qh]
 ·intro j h1 h2;have e:(qh (List.replicate n 0))[j]?=some (.int .i64 0):=by
   have hj:j<n:=by simpa[qh]using h2
   rw[kD _ _ (by simpa using hj),List.getElem_replicate]
  rw[Array.getElem?_eq_getElem h2]at e;rw[Option.some.inj e];simp[madeCells,Nat.mod_one]
theorem qg.nums{w:World}{g:Nat}{cs:List Int}(h:qg w g 3 (qh cs))(hz:∀z∈cs,qD z):qJ w (some ⟨g,0,none⟩) cs:=fun i hi =>
 ⟨g,0,rfl,h.lt,by rw[Nat.zero_add,h.cell i];exact kD cs i hi,hz _ (List.getElem_mem hi)⟩
theorem wT (W:World)(zs:List Int)(hz:∀z∈zs,qD z):qJ (W.alloc (.cells (qh zs) 3)) (some ⟨W.heap.size,0,none⟩) zs:=qg.nums (qg.new W 3 (qh zs)) hz
theorem oO (n:Int)(h0:0≤n)(h:n*8≤140737488355328)(W:World):(Instr.makeSlice 57 (.int .i64 n) (.int .i64 n)).run prog W=.ok (.slice (some ⟨W.heap.size,0,none⟩) n.toNat n.toNat) (W.alloc (.cells (qh (List.replicate n.toNat 0)) 3)):=by
 obtain⟨i0,hi,hz0,hz1,hz2⟩:=info_parts vG;have hmk:=run_make (P:=prog) W 57 3 i0 (.int .i64 0) underlying57 hi hz0 .i64 .i64 n n h0 (Int.le_refl _) (by rw[hz2];omega) (by omega);rw[hz1]at hmk;rw[← qc7];simpa[Value.cells]using hmk
def wU (r:Bool)(w:World)(e:Ending)(w':World):Prop:=e=.returned (.bool r)∧Below w.heap.size w w'
def qga (r:Int)(w:World)(e:Ending)(w':World):Prop:=e=.returned (.int .i64 r)∧Below w.heap.size w w'
structure New(w w':World)(A:Option Addr)(r:List Int)(cc:Nat):Prop where
 ints:qJ w' A r
 free:∀i,i<r.length→∀b o,A=some ⟨b,o,none⟩→w'.frozen? ⟨b,o+i,none⟩=false
 new:∀b o,A=some ⟨b,o,none⟩→w.heap.size≤b∧b<w'.heap.size
 cap:r.length≤cc
 nil:A=none→r.length=0∧cc=0
structure yx(w:World)(A:Option Addr)(l:List Int)(c:Nat):Prop where
 ints:qJ w A l
 cap:l.length≤c
 nil:A=none→l.length=0∧c=0
theorem yx.below{w w':World}{A:Option Addr}{l:List Int}{c:Nat}(h:yx w A l c)(hb:Below w.heap.size w w'):yx w' A l c:=⟨h.ints.below hb,h.cap,h.nil⟩
theorem New.sl{w w':World}{A:Option Addr}{r:List Int}{cc:Nat}(h:New w w' A r cc):yx w' A r cc:=⟨h.ints,h.cap,h.nil⟩
theorem yx.none(w:World):yx w none [] 0:=⟨qJ.nil _ _,Nat.le_refl _,fun _=>⟨rfl,rfl⟩⟩
theorem qsX(W:World)(zs:List Int)(hz:∀z∈zs,qD z):yx (W.alloc (.cells (qh zs) 3)) (some ⟨W.heap.size,0,Option.none⟩) zs zs.length:=⟨wT W zs hz,Nat.le_refl _,fun h=>by cases h⟩
def qsY (r:List Int × Int)(w:World)(e:Ending)(w':World):Prop:=∃A cc,e=.returned (.tuple #[.slice A r.1.length cc,.int .i64 r.2])∧New w w' A r.1 cc∧Below w.heap.size w w'
theorem New.empty(w w':World):New w w' none [] 0:=⟨qJ.nil _ _,fun _ h=>absurd h (by simp),(fun _ _ h=>by cases h),Nat.le_refl _,fun _=>⟨rfl,rfl⟩⟩
theorem lr {c:Int}{w w':World}(h:Below w.heap.size w w'):qsY ([],c) w (.returned (.tuple #[.slice none 0 0,.int .i64 c])) w' :=
 ⟨none,0,rfl,New.empty _ _,h⟩
theorem zu.new{w w':World}{v:Value}{zs:List Int}(h:zu w' w.heap.size v zs)(hz:∀z∈zs,qD z):∃A cc,v=.slice A zs.length cc∧New w w' A zs cc:=by
 rcases h.2 with⟨rfl,h0⟩|⟨g,cap,cur,rfl,hg,hh,hcc,hm,hcs,xt⟩
 ·obtain rfl:zs=[]:=List.length_eq_zero_iff.1 h0;exact⟨none,0,rfl,New.empty _ _⟩
 ·obtain⟨A,cc,hv,hi,hb⟩:=h.view hz;simp only[Value.slice.injEq]at hv;obtain⟨rfl,_,rfl⟩:=hv;refine⟨_,_,rfl,hi,fun i _ b o hA=>?_,hb,by omega,fun h=>by cases h⟩;simp only[Option.some.injEq,Addr.mk.injEq,and_true]at hA;obtain⟨rfl,_⟩:=hA;simp[World.frozen?,hh]
theorem qc8{w w':World}{v:Value}{zs:List Int}{c:Int}{r:List Int × Int}(ho:zu w' w.heap.size v zs)(hz:∀z∈zs,qD z)(hb:Below w.heap.size w w')(hr:r=(zs,c)) :
    qsY r w (.returned (.tuple #[v,.int .i64 c])) w':=by
 subst hr;obtain⟨A,cc,rfl,hn⟩:=ho.new hz;exact⟨A,cc,rfl,hn,hb⟩
end Go.Proofs.YtdagdllomphidaaGreatDoor.ib
namespace Go.Proofs.YtdagdllomphidaaGreatDoor
open _root_.Go.Proofs.Tryz Go Go.RowKit
theorem yg {P:Program}{id:Nat}{Q:Exit→Act→World→Prop}{a:Act}{w:World}{l:List Oper}(n:Nat)(hm:P.follows .mixedOrders=true)(hB:Region.lexTailB .any l.toArray n=true)
    (h:wpStill P l.toArray w.drew (fun a'=>wpList P l.toArray Q (l.drop n) a' w.drew) (l.take n) a):(Code.region id l.toArray true).wp P Q a w :=
 wp_region_still_tail n hm hB h
theorem wV {P:Program}{ops:Array Oper}{w:World}{Q:Act→Prop}{o:Oper}{rest:List Oper}{a:Act}{v:Value}(hg:o.guard=none)(h:(execOp a.eval o).run P w=.ok (.value v) w)
    (hn:wpStill P ops w Q rest (a.put o.dst v)):wpStill P ops w Q (o::rest) a:=by
 have hw:Region.wanted o (yielded ops a.tmps)=true:=by simp[Region.wanted,hg]
 unfold wpStill;rw[if_pos hw];unfold Oper.still;rw[h];exact⟨rfl,hn⟩
theorem qjo{P:Program}{o:Oper}{a:Act}{w w':World}{v:Value}{K:Act→World→Prop}{Q:Exit→Act→World→Prop}(h:(execOp a.eval o).run P w=.ok (.value v) w')(hn:K (a.put o.dst v) w'):o.wp P a w K Q:=by
 unfold Oper.wp;rw[h];exact hn
theorem ql {P:Program}{ops:Array Oper}{rest:List Oper}{o:Oper}{a:Act}{w w':World}{v:Value}{Q:Exit→Act→World→Prop}(hg:o.guard=none)(h:(execOp a.eval o).run P w=.ok (.value v) w')
    (hn:wpList P ops Q rest (a.put o.dst v) w'):wpList P ops Q (o::rest) a w :=
 wpList_plain hg fun _ hK=>qjo h (hK _ _ hn)
theorem wp_skip{P:Program}{o:Oper}{a:Act}{w w':World}{K:Act→World→Prop}{Q:Exit→Act→World→Prop}(h:(execOp a.eval o).run P w=.ok .skip w')(hn:K (a.put o.dst undef) w'):o.wp P a w K Q:=by
 unfold Oper.wp;rw[h];exact hn
theorem wpList_skip{P:Program}{ops:Array Oper}{rest:List Oper}{o:Oper}{a:Act}{w w':World}{Q:Exit→Act→World→Prop}(hg:o.guard=none)(h:(execOp a.eval o).run P w=.ok .skip w')
    (hn:wpList P ops Q rest (a.put o.dst undef) w'):wpList P ops Q (o::rest) a w :=
 wpList_plain hg fun _ hK=>wp_skip h (hK _ _ hn)
end Go.Proofs.YtdagdllomphidaaGreatDoor
namespace Go.Proofs.YtdagdllomphidaaGreatDoor.ib
open _root_.Go.Proofs.Tryz Go Go.RowKit
abbrev Bt:=List UInt8
def zz:Bt:=List.replicate 32 0
def rep (c:UInt8)(n:Nat):Bt:=List.replicate n c
def eG (c:UInt8):Bt:=if c.toNat≤250 then rep c 32 else rep c (c.toNat%31)
theorem qI:zz.length=32:=by simp[zz]
theorem fR (z:Nat):madeCells #[Value.int .u8 0] z=(Lib.byteCells (List.replicate z 0)).toArray:=by
 apply Array.ext';apply List.ext_getElem?;intro j;by_cases hj:j<z <;> simp[madeCells,Lib.byteCells,hj,Nat.mod_one]
theorem qc9(e:Int)(z:Nat)(w:World)(he:e=(z:Int))(hz:z≤1000000) :
    (Instr.makeSlice 118 (.int .i64 e) (.int .i64 e)).run prog w=.ok (.slice (some ⟨w.heap.size,0,none⟩) z z) (w.alloc (.cells (Lib.byteCells (List.replicate z 0)).toArray 5)):=by
 subst he;obtain⟨i0,hi,hz0,hz1,hz2⟩:=info_parts Tryz.qan;have hmk:=run_make (P:=prog) w 118 5 i0 (.int .u8 0) underlying118 hi hz0 .i64 .i64 (z:Int) (z:Int) (by omega) (by omega) (by rw[hz2];omega) (by omega);rw[hz1]at hmk;rw[← fR];simpa[Value.cells]using hmk
theorem qat{ρ:Operand→Value}{o:Oper}{w:World}(x y:Operand)(z:Nat)(ho:o.op=.makeSlice 118 x y)(hx:ρ x=.int .i64 (z:Int))(hy:ρ y=.int .i64 (z:Int))(hz:z≤1000000) :
    (execOp ρ o).run prog w=.ok (.value (.slice (some ⟨w.heap.size,0,none⟩) z z)) (w.alloc (.cells (Lib.byteCells (List.replicate z 0)).toArray 5)):=by
 have hr:=qc9 (z:Int) z w rfl hz;simp[execOp,ho,hx,hy,hr,Result.andThen]
theorem aw (P:Bt)(b k:Nat)(t:TypeId)(w:World)(hk:P.length=k)(h:w.heap[b]?=some (.cells (Lib.byteCells P).toArray t (0,0))) :
    (convert 118 9 (.slice (some ⟨b,0,none⟩) k k)).run prog w=.ok (.string (str P)) w:=by
 subst hk;refine run_convert_bytes_back (P:=prog) w 118 9 5 ⟨b,0,none⟩ P.length P underlying118 underlying5 underlying9 ?_;intro j hj;rw[addr_add,Nat.zero_add,cell_of_row w b j _ _ _ h];simp[Lib.byteCells,hj]
theorem qgb(P:Bt)(cs:Array Value)(b cap:Nat)(t:TypeId)(w:World)(h:w.heap[b]?=some (.cells cs t (0,0)))(hc:∀(j:Nat) (u:Value),(Lib.byteCells P)[j]?=some u→cs[j]?=some u) :
    (convert 118 9 (.slice (some ⟨b,0,none⟩) P.length cap)).run prog w=.ok (.string (str P)) w:=by
 refine run_convert_bytes_back (P:=prog) w 118 9 5 ⟨b,0,none⟩ cap P underlying118 underlying5 underlying9 ?_;intro j hj;rw[addr_add,Nat.zero_add,cell_of_row w b j _ _ _ h];exact hc j _ (by simp[Lib.byteCells,hj])
def okS (v:Bt)(w:World)(e:Ending)(w':World):Prop:=e=.returned (.string (str v))∧Below w.heap.size w w'
def uO (c:UInt8)(k:Nat):Array Value:=(Lib.byteCells (List.replicate k c++List.replicate (32-k) 0)).toArray
theorem qcA(c:UInt8):uO c 0=(Lib.byteCells (List.replicate 32 0)).toArray:=rfl
theorem qcB(c:UInt8)(k:Nat)(h:k≤32):(uO c k).size=32:=by simp[uO,Lib.byteCells];omega
theorem qgc(c:UInt8)(k:Nat)(h:k<32):(uO c k).setIfInBounds k (.int .u8 (c.toNat:Int))=uO c (k+1):=by
 unfold uO Lib.byteCells;simp only[List.setIfInBounds_toArray,List.map_append,List.map_replicate];rw[List.set_append_right _ _ (by simp)]
 congr 1
 rw[show 32-k=(32-(k+1))+1 by omega,List.replicate_succ,List.replicate_succ'];simp
theorem ax (c:UInt8)(n:Nat):(rep c n).length=n:=by simp[rep]
theorem qcC(c:UInt8):uO c 32=(Lib.byteCells (rep c 32)).toArray:=by simp[uO,rep]
def yf (x:Int):Prop:=-9223372036854775808≤x∧x≤9223372036854775807
def TxL (w:World)(A:Option Addr)(ts:List Bt):Prop :=
 ∀i (h:i<ts.length),∃b o,A=some ⟨b,o,none⟩∧b<w.heap.size∧w.cell? ⟨b,o+i,none⟩=some (.string (str ts[i]))
theorem TxL.kept{w w':World}{A:Option Addr}{ts:List Bt}(h:TxL w A ts)(hs:w.heap.size≤w'.heap.size)(hk:∀b o,A=some ⟨b,o,none⟩→w'.heap[b]?=w.heap[b]?):TxL w' A ts:=by
 intro i hi;obtain⟨b,o,h1,h2,h3⟩:=h i hi;exact⟨b,o,h1,Nat.lt_of_lt_of_le h2 hs,by rw[World.cell?_of_block (a:=⟨b,o+i,none⟩) (hk b o h1)];exact h3⟩
theorem TxL.below{w w':World}{A:Option Addr}{ts:List Bt}(h:TxL w A ts)(hb:Below w.heap.size w w'):TxL w' A ts:=by
 intro i hi;obtain⟨b,o,h1,h2,h3⟩:=h i hi;exact⟨b,o,h1,Nat.lt_of_lt_of_le h2 hb.size,by rw[hb.cell (p:=⟨b,o+i,none⟩) h2];exact h3⟩
def ay (w w':World)(A:Option Addr):Prop:=∀b o,A=some ⟨b,o,none⟩→w.heap.size≤b∧b<w'.heap.size
theorem ay.none(w w':World):ay w w' none:=fun _ _ h=>by cases h
end Go.Proofs.YtdagdllomphidaaGreatDoor.ib
namespace Go.Proofs.YtdagdllomphidaaGreatDoor.mt
open _root_.Go.Proofs.Tryz Go Go.RowKit ib wi
def ji (w:World)(A:Option Addr)(xs:List Sp):Prop :=
 ∀i (h:i<xs.length),∃b o B c,A=some ⟨b,o,none⟩∧b<w.heap.size∧w.cell? ⟨b,o+i*4,none⟩=some (.int .u64 (xs[i].g.1:Int))∧w.cell? ⟨b,o+i*4+1,none⟩=some (.int .u64 (xs[i].g.2:Int)) ∧
  w.cell? ⟨b,o+i*4+2,none⟩=some (.slice B xs[i].qj.length c)∧w.cell? ⟨b,o+i*4+3,none⟩=some (.bool xs[i].hid)∧yx w B xs[i].qj c∧xn xs[i].g
theorem ji.below{w w':World}{A:Option Addr}{xs:List Sp}(h:ji w A xs)(hb:Below w.heap.size w w'):ji w' A xs:=by
 intro i hi;obtain⟨b,o,B,c,h1,h2,h3,h4,h5,h6,h7,h8⟩:=h i hi;exact⟨b,o,B,c,h1,Nat.lt_of_lt_of_le h2 hb.size,by rw[hb.cell (p:=⟨b,o+i*4,none⟩) h2];exact h3,by rw[hb.cell (p:=⟨b,o+i*4+1,none⟩) h2];exact h4,by rw[hb.cell (p:=⟨b,o+i*4+2,none⟩) h2];exact h5,by rw[hb.cell (p:=⟨b,o+i*4+3,none⟩) h2];exact h6,h7.below hb,h8⟩
theorem ji.nil(w:World)(A:Option Addr):ji w A []:=fun i h=>absurd h (by simp)
theorem ji.nP{w:World}{A:Option Addr}{xs:List Sp}(h:ji w A xs):∀s∈xs,xn s.g:=by
 intro s hs;obtain⟨i,hi,rfl⟩:=List.getElem_of_mem hs;obtain⟨_,_,_,_,_,_,_,_,_,_,_,h8⟩:=h i hi;exact h8
def zi (A0 A1 A2:Option Addr)(c0 c1 c2:Nat)(m:Mt):Array Value:=#[.slice A0 m.live.length c0,.slice A1 m.qa.length c1,.int .u64 (m.tok.base.1:Int),.int .u64 (m.tok.base.2:Int),.int .u64 (m.tok.target.1:Int),.int .u64 (m.tok.target.2:Int),.int .i64 m.tok.next,.int .i64 m.tok.all,.slice A2 m.tok.qj.length c2]
structure MtL(w:World)(A0 A1 A2:Option Addr)(c0 c1 c2:Nat)(m:Mt):Prop where
 live:yx w A0 m.live c0
 qa:ji w A1 m.qa
 room:m.qa.length≤c1∧(A1=none→m.qa.length=0∧c1=0)
 qj:yx w A2 m.tok.qj c2
 base:xn m.tok.base
 target:xn m.tok.target
 next:qD m.tok.next
 all:qD m.tok.all
theorem MtL.below{w w':World}{A0 A1 A2:Option Addr}{c0 c1 c2:Nat}{m:Mt}(h:MtL w A0 A1 A2 c0 c1 c2 m)(hb:Below w.heap.size w w'):MtL w' A0 A1 A2 c0 c1 c2 m :=
 ⟨h.live.below hb,h.qa.below hb,h.room,h.qj.below hb,h.base,h.target,h.next,h.all⟩
theorem MtL.mB{w:World}{A0 A1 A2:Option Addr}{c0 c1 c2:Nat}{m:Mt}(h:MtL w A0 A1 A2 c0 c1 c2 m):mB m:=⟨h.qa.nP,h.base,h.target⟩
structure mtS(m:Mt):Prop where
 live:m.live.length≤1000
 qa:m.qa.length≤1000
 uf:∀s∈m.qa,s.qj.length≤1000
 qj:m.tok.qj.length≤1000
def rL (w:World)(v:Value)(m:Mt):Prop:=∃A0 A1 A2 c0 c1 c2,v=.agg (zi A0 A1 A2 c0 c1 c2 m)∧MtL w A0 A1 A2 c0 c1 c2 m
theorem rL.below{w w':World}{v:Value}{m:Mt}(h:rL w v m)(hb:Below w.heap.size w w'):rL w' v m:=by
 obtain⟨A0,A1,A2,c0,c1,c2,h1,h2⟩:=h;exact⟨A0,A1,A2,c0,c1,c2,h1,h2.below hb⟩
theorem rL.mB{w:World}{v:Value}{m:Mt}(h:rL w v m):mB m:=by
 obtain⟨A0,A1,A2,c0,c1,c2,h1,h2⟩:=h;exact h2.mB
def qw5 (r:List UInt8 × Int)(w:World)(e:Ending)(w':World):Prop:=e=.returned (.tuple #[.string (str r.1),.int .i64 r.2])∧Below w.heap.size w w'
end Go.Proofs.YtdagdllomphidaaGreatDoor.mt
namespace Go.Proofs.YtdagdllomphidaaGreatDoor.mt
open _root_.Go.Proofs.Tryz Go Go.RowKit ib
@[go_sem] theorem qp1 (a b c d:Int) (w:World):(Op.equalIn 10000 55 (.agg #[.int .u64 a,.int .u64 b]) (.agg #[.int .u64 c,.int .u64 d])).run prog w=.ok (a == c&&b == d) w:=by
 have u3:=underlying35;have a3:=isAgg35;have z3:=sizeOf35;rw[show(10000:Nat)=9999+1 from rfl,run_equalIn_agg w 9999 55 _ _ (by kernel_rfl) (by kernel_rfl)];simp only[Program.fieldsOf,underlying55];go_simp;by_cases h1:a=c <;> by_cases h2:b=d <;> simp[h1,h2]
def gv (g:Gd):Value:=.agg #[.int .u64 (g.1:Int),.int .u64 (g.2:Int)]
end Go.Proofs.YtdagdllomphidaaGreatDoor.mt
namespace Go.Proofs.YtdagdllomphidaaGreatDoor.wi
open _root_.Go.Proofs.Tryz Go.RowKit
theorem ar (s:ByteArray)(k:Nat):bl (s.extract k s.size)=(bl s).drop k:=by
 obtain⟨⟨l⟩⟩:=s;simp only[bl,ByteArray.size];simp;exact List.take_of_length_le (by simp)
end Go.Proofs.YtdagdllomphidaaGreatDoor.wi
namespace Go.Proofs.YtdagdllomphidaaGreatDoor.mt
open _root_.Go.Proofs.Tryz Go Go.RowKit ib wi
def Tc (c:Nat)(j:Nat):Prop:=j=c
theorem uP {w w':World}{c:Nat}(h:w.grownBy w' (some c)):qB (Tc c) w w':=⟨h.os,h.tape,h.output,h.size,fun k hk hn=>h.block k hk (fun e=>hn (by simpa[Tc]using e))⟩
end Go.Proofs.YtdagdllomphidaaGreatDoor.mt
namespace Go.Proofs.YtdagdllomphidaaGreatDoor.ib
open _root_.Go.Proofs.Tryz Go Go.RowKit
theorem wW {w:World}{a b:Nat}{t u:TypeId}{x y:Array Value}(h:qg w a t x)(k:qg w b u y)(hn:t≠u):a≠b:=by
 rintro rfl;unfold qg at h k;rw[h]at k;simp only[Option.some.injEq,Obj.cells.injEq]at k;exact hn k.2.1
theorem xQ {w w':World}{base e size n:Nat}{v:Value}{zs:List Value}(h:w.ownsRow base e size v n zs)(hb:∀k,v.ownBlock=some k→w'.heap[k]?=w.heap[k]?):w'.ownsRow base e size v n zs:=by
 refine⟨h.1,?_⟩;rcases h.2 with h2|⟨g',cap,cur,h1,h2,h3,h4⟩
 ·exact .inl h2
 ·refine .inr ⟨g',cap,cur,h1,h2,(hb g' ?_).trans h3,h4⟩;rw[h1];rfl
theorem qjq{w:World}{B B' e size n:Nat}{v:Value}{zs:List Value}(h:w.ownsRow B e size v n zs)(hB:B'≤B):w.ownsRow B' e size v n zs:=by
 refine⟨h.1,?_⟩;rcases h.2 with h2|⟨g',cap,cur,h1,h2,h3⟩
 ·exact .inl h2
 ·exact .inr ⟨g',cap,cur,h1,Nat.le_trans hB h2,h3⟩
theorem xV {w:World}{base e size n:Nat}{v:Value}{xs:List Value}(h:w.ownsRow base e size v n xs):∃A c,v=.slice A n c:=by
 rcases h.2 with⟨rfl,rfl⟩|⟨g,cap,cur,rfl,_⟩
 ·exact⟨none,0,rfl⟩
 ·exact⟨_,cap,rfl⟩
theorem qE (w:World)(g i:Nat)(u:Value)(k:Nat)(h:k≠g):(w.setCell ⟨g,i,none⟩ u).heap[k]?=w.heap[k]? :=Below.heap_setCell _ _ _ _ h
def Kp (r:TypeId)(w w':World):Prop:=∀j t cs,t≠r→qg w j t cs→qg w' j t cs
theorem Kp.refl(r:TypeId)(w:World):Kp r w w:=fun _ _ _ _ h=>h
theorem Kp.trans{r:TypeId}{a b c:World}(h:Kp r a b)(k:Kp r b c):Kp r a c:=fun j t cs hn hb=>k j t cs hn (h j t cs hn hb)
theorem Kp.of_below{r:TypeId}{w w':World}(h:Below w.heap.size w w'):Kp r w w':=fun _ _ _ _ hb=>hb.below h
theorem Kp.lu{r:TypeId}{w w':World}{c:Nat}{x:Array Value}(h:qB (fun j=>j=c) w w')(hc:qg w c r x):Kp r w w':=fun j t cs hn hb =>
 hb.of_block (h.block j hb.lt (wW hb hc hn))
theorem Kp.wX{r:TypeId}{w:World}{g:Nat}{x:Array Value}(i:Nat)(u:Value)(hg:qg w g r x):Kp r w (w.setCell ⟨g,i,none⟩ u):=fun j t cs hn hb =>
 hb.of_block (qE _ _ _ _ _ (wW hb hg hn))
theorem Kp.row{r:TypeId}{w w':World}{base e size n:Nat}{v:Value}{zs:List Value}(h:Kp r w w')(hn:e≠r)(ho:w.ownsRow base e size v n zs):w'.ownsRow base e size v n zs:=by
 refine⟨ho.1,?_⟩;rcases ho.2 with h2|⟨g',cap,cur,h1,h2,h3,h4⟩
 ·exact .inl h2
 ·exact .inr ⟨g',cap,cur,h1,h2,h g' e cur hn h3,h4⟩
end Go.Proofs.YtdagdllomphidaaGreatDoor.ib
namespace Go.Proofs.YtdagdllomphidaaGreatDoor.mt
open _root_.Go.Proofs.Tryz Go Go.RowKit ib wi
theorem rM:(prog.info? 145).map (fun i=>(i.zero,i.size,i.bytes))=some (some (.agg #[.int .u64 0,.int .u64 0,.slice none 0 0,.bool false]),4,48):=by kernel_rfl
abbrev bg:=Sp × Value
def bh (x:bg):List Value:=[.int .u64 (x.1.g.1:Int),.int .u64 (x.1.g.2:Int),x.2,.bool x.1.hid]
def qW:List bg→List Value
 | []=>[]
 | x::r=>bh x++qW r
theorem bA:∀(l r:List bg),qW (l++r)=qW l++qW r
 | [],_=>rfl
 | x::l,r=>by
  show bh x++qW (l++r)=bh x++qW l++qW r;rw[bA l r,List.append_assoc]
theorem qgd(x:bg):qW [x]=bh x:=by simp[qW]
theorem ya:∀l:List bg,(qW l).length=l.length*4
 | []=>rfl
 | x::l=>by simp[qW,bh,ya l];omega
theorem xr:∀(l:List bg) (i:Nat) (h:i<l.length) (j:Nat),j<4→(qW l)[i*4+j]?=(bh l[i])[j]?
 | x::l,0,_,j,hj=>by
  show(bh x++qW l)[0*4+j]?=_;rw[List.getElem?_append_left (by simp[bh];omega),Nat.zero_mul,Nat.zero_add];rfl
 | x::l,i+1,h,j,hj=>by
  have:=xr l i (by simpa using h) j hj;show(bh x++qW l)[(i+1)*4+j]?=_;rw[List.getElem?_append_right (by simp[bh];omega)];rw[show(i+1)*4+j-(bh x).length=i*4+j from by simp[bh];omega];exact this
theorem qjr(w:World)(B:Nat):zu w B (.slice none 0 0) []:=World.ownsRow_nil _ _ _ _
def wE (w:World)(B:Nat)(v:Value)(xs:List bg):Prop:=w.ownsRow B 145 4 v xs.length (qW xs)∧∀x∈xs,zu w B x.2 x.1.qj
theorem wE.nil(w:World)(B:Nat):wE w B (.slice none 0 0) []:=⟨World.ownsRow_nil _ _ _ _,fun x hx=>absurd hx (by simp)⟩
section
variable {w w':World} {B:Nat} {v:Value} {xs:List bg} {r:TypeId}
theorem wE.kp(h:wE w B v xs)(hk:Kp r w w')(h1:145≠r)(h2:3≠r):wE w' B v xs :=
 ⟨hk.row h1 h.1,fun x hx=>hk.row h2 (h.2 x hx)⟩
theorem wE.below(h:wE w B v xs)(hb:Below w.heap.size w w'):wE w' B v xs:=h.kp (r:=1000000) (Kp.of_below hb) (by decide) (by decide)
theorem dX {zs:List Int}(h:zu w B v zs)(hk:Kp r w w')(h1:3≠r):zu w' B v zs:=hk.row h1 h
theorem qeB{zs:List Int}(h:zu w B v zs)(hz:∀z∈zs,qD z):∃A c,v=.slice A zs.length c∧yx w A zs c:=by
 rcases h.2 with⟨rfl,h0⟩|⟨g,cap,cur,rfl,hg,hh,hcc,hm,hcs,xt⟩
 ·obtain rfl:zs=[]:=List.length_eq_zero_iff.1 h0;exact⟨none,0,rfl,yx.none _⟩
 ·obtain⟨A,cc,hv,hi,hb⟩:=zu.view h hz;simp only[Value.slice.injEq]at hv;obtain⟨rfl,_,rfl⟩:=hv;exact⟨_,_,rfl,hi,by omega,fun h=>by cases h⟩
theorem wE.view(h:wE w B v xs)(hz:∀x∈xs,∀z∈x.1.qj,qD z)(hg:∀x∈xs,xn x.1.g) :
    ∃A c,v=.slice A (xs.map (·.1)).length c∧ji w A (xs.map (·.1))∧((xs.map (·.1)).length≤c∧(A=none→(xs.map (·.1)).length=0∧c=0)):=by
 obtain⟨h1,h2⟩:=h;rcases h1.2 with⟨rfl,h0⟩|⟨g,cap,cur,rfl,hgB,hh,hcc,hm,hcs,xt⟩
 ·obtain rfl:xs=[]:=List.length_eq_zero_iff.1 h0;exact⟨none,0,rfl,ji.nil _ _,Nat.le_refl _,fun _=>⟨rfl,rfl⟩⟩
 ·refine⟨some ⟨g,0,none⟩,cap,by simp,fun i hi=>?_,by simpa using hcc,fun h=>by cases h⟩;have hix:i<xs.length:=by simpa using hi
  have wD:g<w.heap.size:=(Array.getElem?_eq_some_iff.1 hh).1;have key:∀(j:Nat) (u:Value),(qW xs)[j]?=some u→w.cell? ⟨g,j,none⟩=some u:=by
   intro j u hu;rw[cell_of_row w g j cur 145 (0,0) hh];rw[← xt,List.getElem?_take]at hu;split at hu
   ·simpa using hu
   ·cases hu
  obtain⟨A',c',hv,uJ⟩:=qeB (h2 _ (List.getElem_mem hix)) (hz _ (List.getElem_mem hix));have e:(xs.map (·.1))[i]=xs[i].1:=by simp
  rw[e];refine⟨g,0,A',c',rfl,wD,?_,?_,?_,?_,uJ,hg _ (List.getElem_mem hix)⟩
  ·rw[Nat.zero_add];have:=key (i*4+0) _ (xr xs i hix 0 (by omega));exact this
  ·rw[Nat.zero_add];exact key (i*4+1) _ (xr xs i hix 1 (by omega))
  ·rw[Nat.zero_add];have:=key (i*4+2) _ (xr xs i hix 2 (by omega));rw[← hv];exact this
  ·rw[Nat.zero_add];exact key (i*4+3) _ (xr xs i hix 3 (by omega))
end
end Go.Proofs.YtdagdllomphidaaGreatDoor.mt
namespace Go.Proofs.YtdagdllomphidaaGreatDoor.mt.pg
open _root_.Go.Proofs.Tryz Go Go.RowKit ib wi im mt
def PS (w:World)(c:Nat)(s:St):Prop:=match s with
 | none=>∃l,zh c l true w
 | some l=>zh c l false w
theorem PS.blk{w:World}{c:Nat}{s:St}(h:PS w c s):∃x,qg w c 215 x:=by
 unfold PS at h;split at h
 ·obtain⟨l,g,o,cap,h1,_⟩:=h;exact⟨_,h1⟩
 ·obtain⟨g,o,cap,h1,_⟩:=h;exact⟨_,h1⟩
theorem PS.lt{w:World}{c:Nat}{s:St}(h:PS w c s):c<w.heap.size:=by
 obtain⟨x,hx⟩:=h.blk;exact hx.lt
theorem PS.below{w w':World}{c:Nat}{s:St}(h:PS w c s)(hb:Below w.heap.size w w'):PS w' c s:=by
 unfold PS at h ⊢;split at h
 ·obtain⟨l,h⟩:=h;exact⟨l,h.below hb⟩
 ·exact h.below hb
theorem qjs{w:World}{c x:Nat}{l:List UInt8}{bad:Bool}{t:TypeId}{cs:Array Value}(h:zh c l bad w)(hx:qg w x t cs)(h1:t≠215)(h2:t≠5)(k:Nat)(v:Value):zh c l bad (w.setCell ⟨x,k,none⟩ v):=by
 obtain⟨g,o,cap,hb,hr,h3,h4⟩:=h;have hc:c≠x:=fun e=>by
  subst e;unfold qg at hx;rw[hb]at hx;simp only[Option.some.injEq,Obj.cells.injEq]at hx;exact h1 hx.2.1.symm
 have hg:g≠x:=fun e=>by
  subst e;obtain⟨cs',fr,hg,_⟩:=hr;unfold qg at hx;rw[hg]at hx;simp only[Option.some.injEq,Obj.cells.injEq]at hx;exact h2 hx.2.1.symm
 exact⟨g,o,cap,(Below.heap_setCell _ _ _ _ hc).trans hb,hr.keep (Below.heap_setCell _ _ _ _ hg),h3,h4⟩
theorem PS.set{w:World}{c x:Nat}{s:St}{t:TypeId}{cs:Array Value}(h:PS w c s)(hx:qg w x t cs)(h1:t≠215)(h2:t≠5)(k:Nat)(v:Value):PS (w.setCell ⟨x,k,none⟩ v) c s:=by
 unfold PS at h ⊢;split at h
 ·obtain⟨l,h⟩:=h;exact⟨l,qjs h hx h1 h2 k v⟩
 ·exact qjs h hx h1 h2 k v
structure Rd(w:World)(c:Nat)(s:St)(w':World):Prop where
 but:qB (Tc c) w w'
 ps:PS w' c s
theorem Rd.kp{w w':World}{c:Nat}{s s':St}(h:PS w c s)(hr:Rd w c s' w'):Kp 215 w w':=by
 obtain⟨x,hx⟩:=h.blk;exact Kp.lu hr.but hx
theorem Rd.trans{a w w':World}{c:Nat}{s s':St}(h:Rd a c s w)(k:Rd w c s' w'):Rd a c s' w':=⟨h.but.trans k.but fun i hi=>.inl hi,k.ps⟩
theorem Rd.new{a w w':World}{c:Nat}{s:St}(h:Rd a c s w)(hb:Below w.heap.size w w'):Rd a c s w':=⟨h.but.trans (qB.of_below (S:=Tc c) hb) fun i hi=>.inl hi,h.ps.below hb⟩
theorem Rd.set{a w:World}{c x:Nat}{s:St}{t:TypeId}{cs:Array Value}(h:Rd a c s w)(hx:qg w x t cs)(hn:a.heap.size≤x)(h1:t≠215)(h2:t≠5)(k:Nat)(v:Value):Rd a c s (w.setCell ⟨x,k,none⟩ v) :=
 ⟨h.but.setCell _ _ (.inr hn),h.ps.set hx h1 h2 k v⟩
theorem Rd.blk{w w':World}{c x:Nat}{s:St}{t:TypeId}{cs:Array Value}(h:Rd w c s w')(hx:qg w x t cs)(hp:∃y,qg w c 215 y)(hn:t≠215):qg w' x t cs:=by
 obtain⟨y,hy⟩:=hp;exact hx.of_block (h.but.block _ hx.lt (wW hx hy hn))
def qsZ (c:Nat)(s:St)(w:World)(e:Ending)(w':World):Prop:=e=.returned (.int .u64 ((yc s).1:Int))∧Rd w c (yc s).2 w'
theorem wY {w:World}{c:Nat}{s:St}(h:PS w c s):Calls prog 127 #[.pointer (some ⟨c,0,none⟩)] w (qsZ c s w):=by
 unfold PS at h;split at h
 ·obtain⟨l,h1⟩:=h;refine(lp c l w h1).mono ?_;rintro e w' ⟨rfl,rfl⟩;exact⟨rfl,qB.refl _ _,l,h1⟩
 ·rename_i l;refine(uN c l w h).mono ?_;rintro e w' ⟨hg,⟨n,r,hn,rfl,hr⟩|⟨hn,rfl,m,hm⟩⟩
  ·have hq:yc (some l)=(n,some r):=by unfold yc;simp only[hn]
   unfold qsZ;rw[hq];exact⟨rfl,uP hg,hr⟩
  ·have hq:yc (some l)=(0,none):=by unfold yc;simp only[hn]
   unfold qsZ;rw[hq];exact⟨rfl,uP hg,m,hm⟩
def qw6 (k c:Nat)(s:St)(w:World)(e:Ending)(w':World):Prop:=e=.returned (.int .i64 ((jP k s).1:Int))∧Rd w c (jP k s).2 w'
theorem wZ {w:World}{c:Nat}{s:St}(h:PS w c s)(k:Nat)(K:Int)(hK:K=(k:Int))(hk:k≤2000):Calls prog 138 #[.pointer (some ⟨c,0,none⟩),.int .i64 K] w (qw6 k c s w):=by
 subst hK;have HN:=QH (wY h);have hm:min ((yc s).1:Int) ((k:Int)+1)=((jP k s).1:Int):=by
  unfold jP;dsimp only;omega
 have hm2:(if ((k:Int)+1:Int)<((yc s).1:Int)then((k:Int)+1:Int)else((yc s).1:Int))=((jP k s).1:Int):=by
  unfold jP;dsimp only;split <;> omega
 have hsm:=eF k s;obtain⟨n,hn⟩:=QE ((yc s).1);have hl:=rD s;rw[hn]at hm hm2 hl;have HNN:=QH hn;obtain⟨r,hr⟩:=QE ((jP k s).1);rw[hr]at hm hm2 hsm;have eo:=QH hr;clear hn hr h;go_enter func138,ntmps138;go_wp2_with fail;refine HN.out.mono ?_;rintro e W ⟨rfl,hq⟩;rw[HNN.out];have HQ:=QH hq;clear hq;go_wp2_with fail;go_ret;exact⟨by rw[eo.out];rfl,HQ.out⟩
abbrev ptr (b:Nat):Value:=.pointer (some ⟨b,0,none⟩)
theorem qni{w:World}{rb c:Nat}{s:St}(h:PS w c s)(hr:qg w rb 161 #[ptr c]):Calls prog 141 #[ptr rb] w (qw6 1024 c s w):=by
 have HU:=QH (wZ h 1024 1024 rfl (by omega));have c0:=hr.cell 0;simp only[List.getElem?_toArray,List.getElem?_cons_zero]at c0;have hlt:=hr.lt;clear h hr;go_enter func141,ntmps141;go_wp2_with fail;refine HU.out.mono ?_;rintro e W ⟨rfl,hq⟩;have HQ:=QH hq;clear hq c0;go_wp2_with fail;go_ret;exact⟨rfl,HQ.out⟩
theorem qjt{l:List Int}{n k:Nat}(hl:l.length=k)(hk:k<n)(z:Int):(l++List.replicate (n-k) 0).set k z=(l++[z])++List.replicate (n-(k+1)) 0:=by
 rw[List.set_append_right _ _ (by omega),hl,Nat.sub_self,show n-k=(n-(k+1))+1 by omega,List.replicate_succ,List.set_cons_zero,List.append_assoc];rfl
def qp2 (n c:Nat)(s:St)(w:World)(e:Ending)(w':World):Prop:=∃g,e=.returned (.slice (some ⟨g,0,none⟩) n n)∧w.heap.size≤g∧qg w' g 3 (qh (wA n s).1)∧Rd w c (wA n s).2 w'
def qw8 (n c g:Nat)(s:St)(w:World)(i:Value)(wr:World):Prop :=
 ∃k:Nat,k≤n∧i=.int .i64 (k:Int)∧qg wr g 3 (qh ((wA k s).1++List.replicate (n-k) 0))∧Rd w c (wA k s).2 wr
theorem lv {w:World}{rb c:Nat}{s:St}(n:Nat)(hn:n≤1000)(h:PS w c s)(hr:qg w rb 161 #[ptr c]) :
    Calls prog 140 #[.int .i64 (n:Int),.func (.func 141) #[] #[ptr rb]] w (qp2 n c s w):=by
 have hmk:∀W,(Instr.makeSlice 57 (.int .i64 (n:Int)) (.int .i64 (n:Int))).run prog W=.ok (.slice (some ⟨W.heap.size,0,none⟩) n n) (W.alloc (.cells (qh (List.replicate n 0)) 3)):=fun W=>by
  have:=oO (n:Int) (by omega) (by omega) W
  rwa [Int.toNat_natCast]at this
 have HP:=QH h;have HR:=QH hr;clear h hr;go_enter func140,ntmps140;go_wp2_with fail;have hb:=(Below.refl w.heap.size w).alloc (Nat.le_refl _) (.cells (qh (List.replicate n 0)) 3);have HG:=QH (qg.new w 3 (qh (List.replicate n 0)));have xJ:Hid (Rd w c s (w.alloc (.cells (qh (List.replicate n 0)) 3))):=⟨qB.of_below hb,HP.out.below hb⟩;obtain⟨W0,hW0⟩:=QE (w.alloc (.cells (qh (List.replicate n 0)) 3));rw[hW0]at HG xJ;try rw[hW0]
 clear hb hW0 hmk;obtain⟨g,hg⟩:=QE w.heap.size;have HGE:=QH (Nat.le_of_eq hg);rw[hg]at HG;try rw[hg]
 clear hg;go_loopw [6,11] (fun _ i wr=>qw8 n c g s w i wr) (fun _ i _=>n-(intOf i).toNat);case atStart=>exact⟨0,Nat.zero_le _,rfl,by simpa[wA]using HG.out,xJ.out⟩
 case round =>
  obtain⟨k,hk,rfl,hG,hR⟩:=hrel;have HGK:=QH hG;have HRK:=QH hR;clear hG hR;by_cases hlt:k<n
  ·have jY:(k:Int)<(n:Int):=by omega
   have HRB:=QH (HRK.out.blk HR.out HP.out.blk (by decide));go_wp2_with fail;refine(qni HRK.out.ps HRB.out).mono ?_;rintro e W ⟨rfl,hq⟩;have dB:=kj k s;have wM:=QH (qaj k s);have hGW:=hq.blk HGK.out HRK.out.ps.blk (by decide);have HGW:=QH hGW;have HQ:=QH (HRK.out.trans hq);have f0:=hGW.frozen k;have hlg:=hGW.lt;obtain⟨u,hu⟩:∃u,W.cell? ⟨g,k,none⟩=some u:=by
    rw[hGW.cell k,kD _ k (by rw[List.length_append,dB,List.length_replicate];omega)];exact⟨_,rfl⟩
   have HFS:=QH (fun z=>qjt (n:=n) dB hlt z);have az:=QH dB;obtain⟨z,hz⟩:=QE ((jP 1024 (wA k s).2).1:Nat);rw[hz];have HZ:=QH hz;clear hq hGW dB hz HGK HRK HRB;go_wp2_with fail;go_roundw;case rel =>
    have nX:=HGW.out.qo k (.int .i64 (z:Int));rw[lq,HFS.out]at nX;have hRd:=HQ.out.set HGW.out HGE.out (by decide) (by decide) k (.int .i64 (z:Int));refine⟨k+1,by omega,by go_num,?_,?_⟩
    ·rw[wM.out,HZ.out];exact nX
    ·rw[wM.out];exact hRd
   case measure=>simp[intOf];omega
  ·have jY:¬ (k:Int)<(n:Int):=by omega
   obtain rfl:k=n:=by omega
   have hG:=HGK.out;rw[Nat.sub_self,List.replicate_zero,List.append_nil]at hG;have HG2:=QH hG;clear hG;go_wp2_with fail;go_ret;exact⟨g,rfl,HGE.out,HG2.out,HRK.out⟩
theorem kM {w:World}{kb rb c b:Nat}{s:St}(hb:b≤100)(h:PS w c s)(hk:qg w kb 3 #[.int .i64 (b:Int)])(hr:qg w rb 161 #[ptr c]) :
    Calls prog 139 #[ptr kb,ptr rb] w (qp2 b c s w):=by
 have HL:=QH (lv b (by omega) h hr);have c0:=hk.cell 0;simp only[List.getElem?_toArray,List.getElem?_cons_zero]at c0;have hlt:=hk.lt;clear h hr hk;go_enter func139,ntmps139;go_wp2_with fail;refine HL.out.mono ?_;rintro e W ⟨g,rfl,hq⟩;have HQ:=QH hq;clear hq c0;go_wp2_with fail;go_ret;exact⟨g,rfl,HQ.out⟩
def q2p (c:Nat)(s:St)(w:World)(e:Ending)(w':World):Prop:=e=.returned (gv (uw s).1)∧Rd w c (uw s).2 w'
theorem xD {w:World}{c:Nat}{s:St}(h:PS w c s):Calls prog 144 #[ptr c] w (q2p c s w):=by
 have hb0:=(Below.refl w.heap.size w).alloc (Nat.le_refl _) (.cells #[.int .u64 0,.int .u64 0] 55);have HR0:Hid (Rd w c s (w.alloc (.cells #[.int .u64 0,.int .u64 0] 55))):=⟨qB.of_below hb0,h.below hb0⟩;have oP:=QH (qg.new w 55 #[.int .u64 0,.int .u64 0]);obtain⟨w0,hw0⟩:=QE (w.alloc (.cells #[.int .u64 0,.int .u64 0] 55));rw[hw0]at HR0 oP;clear h hb0;go_enter func144,ntmps144;go_wp2_with fail;try rw[hw0]
 clear hw0;refine(wY HR0.out.ps).mono ?_;rintro e W1 ⟨rfl,hq1⟩;have fS:=QH (hq1.blk oP.out HR0.out.ps.blk (by decide));have HR1:=QH (HR0.out.trans hq1);clear hq1 oP HR0;obtain⟨x,hx⟩:=QE ((yc s).1:Nat);rw[hx];have HX:=QH hx;clear hx;go_wp2_with fail;refine(wY HR1.out.ps).mono ?_;rintro e W2 ⟨rfl,hq2⟩;have dC:=QH (hq2.blk fS.out HR1.out.ps.blk (by decide));have uQ:=QH (HR1.out.trans hq2);obtain⟨y,hy⟩:=QE ((yc (yc s).2).1:Nat);rw[hy];have HY:=QH hy;have q0:=dC.out.cell 0;have q1:=dC.out.cell 1;simp only[QA,QB,QC]at q0 q1;have f0:=dC.out.frozen 0;have f1:=dC.out.frozen 1;have hlA:=dC.out.lt;clear hy hq2 fS HR1;go_wp2_with fail;have hA3:=dC.out.qo 0 (.int .u64 (x:Int));have fT:=QH (hA3.qo 1 (.int .u64 (y:Int)));have q0:=fT.out.cell 0;have q1:=fT.out.cell 1;simp at q0 q1;have HG:Hid (gv (uw s).1=.agg #[.int .u64 (x:Int),.int .u64 (y:Int)]):=by unfold Hid gv uw;dsimp only;rw[HX.out,HY.out]
 have eo:=QH ((uQ.out.set dC.out (Nat.le_refl _) (by decide) (by decide) 0 (.int .u64 (x:Int))).set hA3 (Nat.le_refl _) (by decide) (by decide) 1 (.int .u64 (y:Int)));refine bodyPost_ret (v:=.agg #[.int .u64 (x:Int),.int .u64 (y:Int)]) (by simp[results,results144,go_sem,q0,q1]) rfl ?_;exact⟨by rw[HG.out],eo.out⟩
end Go.Proofs.YtdagdllomphidaaGreatDoor.mt.pg
namespace Go.Proofs.YtdagdllomphidaaGreatDoor.mt.pg
open _root_.Go.Proofs.Tryz Go Go.RowKit ib mt
def yS (a b:Nat):Int:=if a<b then -1 else if b<a then 1 else 0
def same (r:Value)(w:World)(e:Ending)(w':World):Prop:=e=.returned r∧w'=w
theorem qeC(a:Nat)(w:World):Calls prog 185 #[.int .u64 (a:Int)] w (same (.bool false) w):=by
 have hq:((a:Int) != (a:Int))=false:=by simp
 go_enter func185,ntmps185;go_wp2_with fail;go_ret;exact⟨by simp,rfl⟩
theorem iO (a b:Nat)(w:World):Calls prog 152 #[.int .u64 (a:Int),.int .u64 (b:Int)] w (same (.int .i64 (yS a b)) w):=by
 have HA:=QH (qeC a w);have HB:=QH (qeC b w);by_cases h1:a<b
 ·have h1i:(a:Int)<(b:Int):=by omega
  have HR:Hid (yS a b = -1):=by unfold Hid yS;rw[if_pos h1]
  clear h1;go_enter func152,ntmps152;go_wp2_with fail;refine HA.out.mono ?_;rintro e _ ⟨rfl,rfl⟩;go_wp2_with fail;refine HB.out.mono ?_;rintro e _ ⟨rfl,rfl⟩;go_wp2_with fail;go_ret;exact⟨by rw[HR.out];rfl,rfl⟩
 by_cases h2:b<a
 ·have h1i:¬ (a:Int)<(b:Int):=by omega
  have h2i:(b:Int)<(a:Int):=by omega
  have HR:Hid (yS a b=1):=by unfold Hid yS;rw[if_neg h1,if_pos h2]
  clear h1 h2;go_enter func152,ntmps152;go_wp2_with fail;refine HA.out.mono ?_;rintro e _ ⟨rfl,rfl⟩;go_wp2_with fail;refine HB.out.mono ?_;rintro e _ ⟨rfl,rfl⟩;go_wp2_with fail;go_ret;exact⟨by rw[HR.out];rfl,rfl⟩
 ·have h1i:¬ (a:Int)<(b:Int):=by omega
  have h2i:¬ (b:Int)<(a:Int):=by omega
  have HR:Hid (yS a b=0):=by unfold Hid yS;rw[if_neg h1,if_neg h2]
  clear h1 h2;go_enter func152,ntmps152;go_wp2_with fail;refine HA.out.mono ?_;rintro e _ ⟨rfl,rfl⟩;go_wp2_with fail;refine HB.out.mono ?_;rintro e _ ⟨rfl,rfl⟩;go_wp2_with fail;go_ret;exact⟨by rw[HR.out];rfl,rfl⟩
theorem qgh{p q:List Int}(k:Nat)(h1:k<p.length)(h2:k<q.length)(h:p.take k=q.take k)(e:p[k]=q[k]):p.take (k+1)=q.take (k+1):=by
 rw[List.take_succ_eq_append_getElem h1,List.take_succ_eq_append_getElem h2,h,e]
def qw9 (p q:List Int)(w:World)(i:Value)(wr:World):Prop :=
 ∃k:Nat,k≤p.length∧i=.int .i64 (k:Int)∧p.take k=q.take k∧Below w.heap.size w wr
theorem dD (A B:Option Addr)(c d:Nat)(p q:List Int)(w:World)(hp:qJ w A p)(hq:qJ w B q)(hl:p.length≤1000000000) :
    Calls prog 211 #[.slice A p.length c,.slice B q.length d] w (wU (decide (p=q)) w):=by
 have HP:=QH hp;have HQ:=QH hq;clear hp hq;by_cases hlen:p.length=q.length
 ·go_enter func211,ntmps211;go_wp2;go_loopw [13] (fun i wr=>qw9 p q w i wr) (fun i _=>p.length-(intOf i).toNat);case atStart=>exact⟨0,Nat.zero_le _,rfl,rfl,Below.refl _ _⟩
  case round =>
   obtain⟨k,hk,rfl,ht,hB⟩:=hrel;have Ht:=QH ht;clear ht;by_cases hlt:k<p.length
   ·have hlq:k<q.length:=by omega
    obtain⟨b1,o1,rfl,hb1,hc1,hz1⟩:=HP.out k hlt;obtain⟨b2,o2,rfl,hb2,hc2,hz2⟩:=HQ.out k hlq;have qcD:wr.cell? ⟨b1,o1+k,none⟩=some (.int .i64 p[k]):=by rw[hB.cell (p:=⟨b1,o1+k,none⟩) hb1];exact hc1
    have rN:wr.cell? ⟨b2,o2+k,none⟩=some (.int .i64 q[k]):=by rw[hB.cell (p:=⟨b2,o2+k,none⟩) hb2];exact hc2
    have q2s:b1<wr.heap.size:=Nat.lt_of_lt_of_le hb1 hB.size;have q2t:b2<wr.heap.size:=Nat.lt_of_lt_of_le hb2 hB.size;have hi1:(k:Int)<(p.length:Int):=by omega
    have oQ:(k:Int)<(q.length:Int):=by omega
    clear hc1 hc2 hz1 hz2;by_cases he:p[k]=q[k]
    ·have hsn:=QH (qgh k hlt hlq Ht.out he);have qnj:wr.cell? ⟨b2,o2+k,none⟩=some (.int .i64 p[k]):=by rw[he];exact rN
     clear he rN;obtain⟨x,hx⟩:=QE (p[k]);rw[hx]at qcD qnj;have hxx:(x != x)=false:=by simp
     clear hx;go_wp2;go_quiet (fail);have hB2:=below_drewN hB nq;go_wp2;go_roundw;case rel=>exact⟨k+1,by omega,by go_num,hsn.out,hB2⟩
     case measure=>simp[intOf];omega
    ·have hne:decide (p=q)=false:=by
        simp only[decide_eq_false_iff_not];rintro rfl;exact he rfl
     have Hne:=QH hne;obtain⟨x,hx⟩:=QE (p[k]);obtain⟨y,hy⟩:=QE (q[k]);rw[hx,hy]at he;rw[hx]at qcD;rw[hy]at rN;have hxy:(x != y)=true:=by simpa using he
     clear he hne hx hy;go_wp2;go_quiet (fail);have hB2:=below_drewN hB nq;go_wp2;go_ret;exact⟨by rw[Hne.out];rfl,hB2⟩
   ·have ee:k=p.length:=by omega
    have heq:decide (p=q)=true:=by
     have:=Ht.out;rw[List.take_of_length_le (by omega),List.take_of_length_le (by omega)]at this;simpa using this
    have Heq:=QH heq;clear heq;go_wp2;go_ret;exact⟨by rw[Heq.out];rfl,hB⟩
 ·have hne:decide (p=q)=false:=by
     simp only[decide_eq_false_iff_not];rintro rfl;exact hlen rfl
  have hli:¬ (p.length:Int)=(q.length:Int):=by omega
  have Hne:=QH hne;clear hne;go_enter func211,ntmps211;go_wp2;go_ret;exact⟨by rw[Hne.out];rfl,Below.refl _ _⟩
def qwC (x y:Int)(w:World)(i:Value)(wr:World):Prop:=∃k:Nat,k≤2∧i=.int .i64 (k:Int)∧(1≤k→x=0)∧(2≤k→y=0)∧wr=w
theorem qju(A:Addr)(c:Nat)(x y:Int)(w:World)(hp:qJ w (some A) [x,y]) :
    Calls prog 151 #[.slice (some A) 2 c] w (same (.int .i64 (if x≠0 then x else y)) w):=by
 obtain⟨b0,o0,hA,hb0,hc0,hz0⟩:=hp 0 (by simp);obtain⟨b1,o1,hA1,hb1,hc1,hz1⟩:=hp 1 (by simp);obtain rfl:=Option.some.inj hA;simp only[Option.some.injEq,Addr.mk.injEq,and_true]at hA1;obtain⟨rfl,rfl⟩:=hA1;simp only[List.getElem_cons_zero,List.getElem_cons_succ]at hc0 hc1 hz0 hz1;clear hA hp;obtain⟨res,hres⟩:=QE (if x≠0 then x else y);rw[hres];have HR:=QH hres;clear hres hz0 hz1;rw[Nat.add_zero]at hc0;have HC0:=QH hc0;have HC1:=QH hc1;clear hc0 hc1;go_enter func151,ntmps151;go_wp2_with fail;go_loopw [5,8] (fun _ i wr=>qwC x y w i wr) (fun _ i _=>2-(intOf i).toNat);case atStart=>exact⟨0,by omega,rfl,fun h=>absurd h (by omega),fun h=>absurd h (by omega),rfl⟩
 case round =>
  obtain⟨k,hk,rfl,h1,h2,rfl⟩:=hrel;by_cases hk2:k<2
  ·have jY:(k:Int)<2:=by omega
   obtain⟨v,hv,hc,hn⟩:∃v,(v≠0→res=v)∧wr.cell? ⟨b0,o0+k,none⟩=some (.int .i64 v)∧(v=0→(1≤k+1→x=0)∧(2≤k+1→y=0)):=by
    match k,hk2 with
    | 0,_=>exact⟨x,fun h=>by rw[← HR.out,if_pos h],HC0.out,fun h=>⟨fun _=>h,fun h=>absurd h (by omega)⟩⟩
    | 1,_=>exact⟨y,fun h=>by rw[← HR.out,if_neg (by simp[h1 (by omega)])],HC1.out,fun h=>⟨fun _=>h1 (by omega),fun _=>h⟩⟩
   have HV:=QH hv;have HN:=QH hn;clear hv hn h1 h2;by_cases hv0:v=0
   ·subst hv0;go_wp2_with fail;go_roundw;case rel=>exact⟨k+1,by omega,by go_num,(HN.out rfl).1,(HN.out rfl).2,rfl⟩
    case measure=>simp[intOf];omega
   ·have hvb:(v != 0)=true:=by simpa using hv0
    have iD:=QH (HV.out hv0);clear hv0;go_wp2_with fail;go_ret;exact⟨by rw[iD.out];rfl,rfl⟩
  ·have jY:¬ (k:Int)<2:=by omega
   have hr:res=0:=by rw[← HR.out,if_neg (by simp[h1 (by omega)]),h2 (by omega)]
   have HR0:=QH hr;clear hr h1 h2;go_wp2_with fail;go_ret;exact⟨by rw[HR0.out];rfl,rfl⟩
theorem oT (a b:Gd):above a b=decide (0<(if yS a.1 b.1≠0 then yS a.1 b.1 else yS a.2 b.2)):=by
 obtain⟨a1,a2⟩:=a;obtain⟨b1,b2⟩:=b;unfold above yS;rw[Bool.eq_iff_iff];simp only[Bool.or_eq_true,Bool.and_eq_true,decide_eq_true_eq];by_cases h1:a1<b1
 ·simp[h1];omega
 ·by_cases h2:b1<a1
  ·simp[h1,h2]
  ·by_cases h3:a2<b2
   ·simp[h1,h2,h3];omega
   ·by_cases h4:b2<a2
    ·simp[h1,h2,h3,h4];omega
    ·simp[h1,h2,h3,h4]
end Go.Proofs.YtdagdllomphidaaGreatDoor.mt.pg

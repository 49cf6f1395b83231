/- Str, ImPure, WiPure, MtNsec, MtPure, MtMath, MgPure, WiShelf, ShBuilder, Info, WiPut, WiGrown, WiRead, WiNum, WiNumG, WiNumR, Ints, Blk, ICells, StillW, Dat, Lists, MtMem, MtEq, WiRefR0, WiRefN, WiRefG, WiRefQ, MtRd, OwnKit, MtSns. -/
import Derived.Below
import Derived.Lib.Hide
import Derived.Lib.Strings
import Derived.RowKit
import Derived.Lib.ItoaNum
import Derived.Shelf.Strconv.Itoa0
import Derived.Test.YtdpbdkacngaemaaGreatDoorProg
import Derived.Shelf.Strings.Builder1
import Derived.WalkKit
import Derived.WalkSpells
import Derived.WalkLawsBesides
import Derived.BigCall
import Derived.Lib.ConvBytes
import Derived.OpenShut
import Derived.Deep.Slices
import Derived.Deep.SlicePairs
import Derived.Deep.Fields
import Derived.ChangeSlices
import Derived.ChangeSame
import Derived.Maps.AppendAt
import Derived.OwnWalk
import Derived.Deep.Draws
import Derived.StillTailTactics
import Derived.LoopTactic
import Derived.Deep.WholeRow
import Derived.Deep.AppendSrc
import Derived.Carry
import Derived.Laws.StructEq
import Derived.Laws.Cover2
import Derived.KernelRfl
import Derived.Deep.QuietTactic
import Derived.BigQuiet
import Derived.Laws.AppendOwn
import Derived.Tactics
set_option linter.unusedVariables false
set_option linter.unusedSimpArgs false
set_option maxHeartbeats 30000000
set_option maxRecDepth 100000
namespace Go.Proofs.YtdpbdkacngaemaaGreatDoor
theorem QH {p : Prop} (h : p) : Go.RowKit.Hid p := h
theorem QA {α : Type _} {l : List α} {i : Nat} : l.toArray[i]? = l[i]? := List.getElem?_toArray
theorem QB {α : Type _} {a : α} {l : List α} : (a :: l)[0]? = some a := List.getElem?_cons_zero
theorem QC {α : Type _} {a : α} {l : List α} {i : Nat} : (a :: l)[i + 1]? = l[i]? := List.getElem?_cons_succ
theorem QE {α : Sort _} (a : α) : ∃ x, a = x := ⟨a, rfl⟩
end Go.Proofs.YtdpbdkacngaemaaGreatDoor
namespace Go.Proofs.YtdpbdkacngaemaaGreatDoor
open _root_.Go.Proofs.Tryz Go Go.RowKit
def str (l:List UInt8):ByteArray:=⟨l.toArray⟩
def bl (s:ByteArray):List UInt8:=s.data.toList
theorem zw (l:List UInt8):bl (str l)=l:=by simp[bl,str]
theorem il (s:ByteArray):str (bl s)=s:=by obtain⟨⟨l⟩⟩:=s;rfl
theorem qN (l:List UInt8):(str l).size=l.length:=by simp[str,ByteArray.size]
theorem zj (s:ByteArray):(bl s).length=s.size:=by obtain⟨⟨l⟩⟩:=s;simp[bl,ByteArray.size]
theorem str_inj{l m:List UInt8}(h:str l=str m):l=m:=by
 have:=congrArg bl h
 rwa [zw,zw]at this
theorem aD (s:ByteArray):s.toList=bl s:=Lib.toList_data s
theorem wM (s:ByteArray)(a b:Nat):bl (s.extract a b)=((bl s).drop a).take (b-a):=Lib.extract_data s a b
theorem qqv(s:ByteArray)(k:Nat):bl (s.extract 0 k)=(bl s).take k:=by rw[wM];simp
theorem qht(s:ByteArray)(k:Nat):bl (s.extract k s.size)=(bl s).drop k:=by
 rw[wM,List.take_of_length_le];rw[List.length_drop,zj];omega
theorem qeI(s:ByteArray)(l:List UInt8):(s.toList == (str l).toList)=decide (bl s=l):=by
 rw[aD,aD,zw,Bool.eq_iff_iff];simp
theorem kG (k:Nat)(h:k<256):(UInt8.ofNat k).toNat=k:=by
 simp[UInt8.toNat_ofNat'];omega
theorem addr_add(b o j:Nat):(⟨b,o,none⟩:Addr).add j=⟨b,o+j,none⟩:=by
 unfold Addr.add;split
 ·subst_vars;rfl
 ·rfl
theorem qa {w A B:World}(h:Below w.heap.size w A)(g:Below A.heap.size A B):Below w.heap.size w B:=h.trans (g.mono h.size)
theorem zN {w A:World}(h:Below w.heap.size w A)(o:Obj):Below w.heap.size w (A.alloc o):=h.alloc h.size o
def qa4 (w:World)(e:Ending)(w':World):Prop:=e=.returned (.bool true)∧Below w.heap.size w w'
def sY (r:ByteArray)(w:World)(e:Ending)(w':World):Prop:=e=.returned (.string r)∧Below w.heap.size w w'
end Go.Proofs.YtdpbdkacngaemaaGreatDoor
namespace Go.Proofs.YtdpbdkacngaemaaGreatDoor.im
open _root_.Go.Proofs.Tryz Go Go.RowKit
def pl (l:List Int)(i:Nat):Int:=l.getD i 0
theorem eu {l:List Int}{i:Nat}(h:i<l.length):pl l i=l[i]:=by simp[pl,List.getD,h]
theorem iq {l:List Int}{i:Nat}(h:l.length≤i):pl l i=0:=by simp[pl,List.getD,h]
def gS (n z:Int):Bool:=decide (z≠0)&&(decide (z<193) || decide (n≤z))
def dw (l:List Int)(i k:Nat):Bool:=(List.range k).any fun j=>decide (pl l i=pl l j)
def yz (l:List Int)(i:Nat):Bool:=(List.range i).any fun j=>decide (pl l j≠0)&&dw l j j
def zH (l:List Int)(blocks n:Int):Int :=
 if blocks<1∨8<blocks∨(l.length:Int)≠blocks then 2 else if l.any (gS n)then 2 else if yz l l.length then 16 else 0
def qcn (l:List Int)(k s:Int):List Int × Int:=if k<0∨(l.length:Int)≤k∨s<0 then([],2)else(l.set k.toNat s,0)
theorem bS (l:List Int)(i:Nat):yz l (i+1)=(yz l i || (decide (pl l i≠0)&&dw l i i)):=by
 unfold yz;rw[List.range_succ,List.any_append,List.any_cons,List.any_nil,Bool.or_false]
theorem qeJ{l:List Int}{i j m:Nat}(hi:i<m)(hj:j<i)(h0:pl l i≠0)(h:pl l i=pl l j):yz l m=true:=by
 unfold yz dw;rw[List.any_eq_true];refine⟨i,List.mem_range.2 hi,?_⟩;rw[decide_eq_true h0,Bool.true_and,List.any_eq_true];exact⟨j,List.mem_range.2 hj,decide_eq_true h⟩
theorem qlI{l:List Int}{k:Nat}(h:k<l.length)(p:Int→Bool):(l.take (k+1)).any p=((l.take k).any p || p l[k]):=by
 rw[List.take_succ_eq_append_getElem h,List.any_append,List.any_cons,List.any_nil,Bool.or_false]
theorem quz{l:List Int}{k:Nat}(h:k<l.length){p:Int→Bool}(hp:p l[k]=true):l.any p=true :=
 List.any_eq_true.2 ⟨_,List.getElem_mem h,hp⟩
end Go.Proofs.YtdpbdkacngaemaaGreatDoor.im
namespace Go.Proofs.YtdpbdkacngaemaaGreatDoor.wi
open _root_.Go.Proofs.Tryz Go
def xn:Nat→Nat→List UInt8
 | 0,_=>[]
 | f+1,n=>if n=0 then[]else xn f (n/256)++[UInt8.ofNat (n%256)]
def zE (n:Nat):List UInt8:=xn 8 n
def zu (n:Nat):List UInt8:=UInt8.ofNat (zE n).length::zE n
def bB (t:List UInt8):List UInt8:=zu t.length++t
def mD:Nat→List UInt8→Nat
 | a,[]=>a
 | a,b::l=>mD (a*256+b.toNat) l
def val (l:List UInt8):Nat:=mD 0 l
theorem bT (f:Nat):xn f 0=[]:=by cases f <;> simp[xn]
theorem yA:∀(f n:Nat),n<256 ^ f→xn (f+1) n=xn f n
 | 0,n,h=>by
  have:n=0:=by simpa using h
  subst this;simp[xn]
 | f+1,n,h=>by
  by_cases h0:n=0
  ·subst h0;simp[xn]
  ·have h1:n/256<256 ^ f:=by
      rw[Nat.pow_succ]at h;exact(Nat.div_lt_iff_lt_mul (by omega)).2 h
   rw[xn,if_neg h0,yA f _ h1,xn,if_neg h0]
theorem qi2:zE 0=[]:=rfl
theorem qlJ(n:Nat)(h0:n≠0)(h:n<18446744073709551616):zE n=zE (n/256)++[UInt8.ofNat (n%256)]:=by
 have h1:n<256 ^ 8:=by simpa using h
 have e:zE n=xn 9 n:=(yA 8 n h1).symm;rw[e,xn,if_neg h0];rfl
theorem ir:∀(f n:Nat),(xn f n).length≤f
 | 0,_=>by simp[xn]
 | f+1,n=>by
  unfold xn;split
  ·simp
  ·have:=ir f (n/256);simp;omega
theorem jJ (n:Nat):(zE n).length≤8:=ir 8 n
theorem lD:Lib.bitLen 0=0:=by simp[Lib.bitLen,Lib.bitLenAux_zero]
theorem qeK(n:Nat)(h0:n≠0)(h:n<18446744073709551616):1≤Lib.bitLen n :=
 (Lib.bitLenAux_bounds 64 n (by simpa using h) h0).1
theorem sZ:∀(f n:Nat),f≤8→n<256 ^ f→(Lib.bitLen n+7)/8=(xn f n).length
 | 0,n,_,h=>by
  have:n=0:=by simpa using h
  subst this;simp[xn,lD]
 | f+1,n,hf,h=>by
  by_cases h0:n=0
  ·subst h0;simp[xn,lD]
  ·have h1:n/256<256 ^ f:=by
      rw[Nat.pow_succ]at h;exact(Nat.div_lt_iff_lt_mul (by omega)).2 h
   have h64:n<18446744073709551616:=by
    have:256 ^ (f+1)≤256 ^ 8:=Nat.pow_le_pow_right (by omega) hf;have e:(256:Nat) ^ 8=18446744073709551616:=by decide
    omega
   have ih:=sZ f (n/256) (by omega) h1;rw[xn,if_neg h0];simp only[List.length_append,List.length_cons,List.length_nil];by_cases hb:256≤n
   ·rw[Lib.bitLen_shift8 n hb h64];omega
   ·have e:n/256=0:=by omega
    rw[e,bT];have a:=qeK n h0 h64;have b:=Lib.bitLen_le n 8 (by omega) (by omega);simp;omega
theorem count_eq(n:Nat)(h:n<18446744073709551616):(Lib.bitLen n+7)/8=(zE n).length :=
 sZ 8 n (by omega) (by simpa using h)
theorem lF:∀(a:Nat) (l m:List UInt8),mD a (l++m)=mD (mD a l) m
 | _,[],_=>rfl
 | a,b::l,m=>by simp[mD,lF]
theorem nC (l:List UInt8)(b:UInt8):val (l++[b])=val l*256+b.toNat:=by
 simp[val,lF,mD]
theorem ix:∀(f n:Nat),n<256 ^ f→val (xn f n)=n
 | 0,n,h=>by
  have:n=0:=by simpa using h
  subst this;rfl
 | f+1,n,h=>by
  by_cases h0:n=0
  ·subst h0;simp[xn,val,mD]
  ·have h1:n/256<256 ^ f:=by
      rw[Nat.pow_succ]at h;exact(Nat.div_lt_iff_lt_mul (by omega)).2 h
   rw[xn,if_neg h0,nC,ix f _ h1];have:(UInt8.ofNat (n%256)).toNat=n%256:=by
    simp[UInt8.toNat_ofNat']
   rw[this];omega
theorem qlK(n:Nat)(h:n<18446744073709551616):val (zE n)=n:=ix 8 n (by simpa using h)
theorem qeL(l:List UInt8):val l<256 ^ l.length:=by
 have key:∀(l:List UInt8) (a:Nat),mD a l<(a+1)*256 ^ l.length:=by
  intro l
  induction l with
  | nil=>intro a;simp[mD]
  | cons b l ih =>
   intro a;have h:=ih (a*256+b.toNat);have hb:b.toNat<256:=b.toNat_lt;simp only[mD,List.length_cons,Nat.pow_succ]
   calc mD (a*256+b.toNat) l<(a*256+b.toNat+1)*256 ^ l.length:=h
    _≤((a+1)*256)*256 ^ l.length:=Nat.mul_le_mul_right _ (by omega)
    _=(a+1)*(256 ^ l.length*256):=by rw[Nat.mul_assoc,Nat.mul_comm 256]
 have:=key l 0;simpa[val]using this
theorem qlL(l:List UInt8)(h:l.length≤8):val l<18446744073709551616:=by
 have a:=qeL l;have b:256 ^ l.length≤256 ^ 8:=Nat.pow_le_pow_right (by omega) h;have e:(256:Nat) ^ 8=18446744073709551616:=by decide
 omega
theorem qi3:∀(l:List UInt8) (f:Nat),l.length≤f→(∀b m,l=b::m→b≠0)→xn f (val l)=l:=by
 intro l;have key:∀(k:Nat) (l:List UInt8),l.length=k→∀f,l.length≤f→(∀b m,l=b::m→b≠0)→xn f (val l)=l∧(l≠[]→val l≠0):=by
  intro k
  induction k with
  | zero =>
   intro l hl f _ _;have:l=[]:=List.length_eq_zero_iff.1 hl;subst this;exact⟨bT f,fun h=>absurd rfl h⟩
  | succ k ih =>
   intro l hl f hf hz;have hne:l≠[]:=by intro h;subst h;simp at hl
   have hs:l=l.dropLast++[l.getLast hne]:=(List.dropLast_concat_getLast hne).symm;generalize l.dropLast=p at hs;generalize l.getLast hne=b at hs;subst hs;have hp:p.length=k:=by simpa using hl
   obtain⟨f,rfl⟩:∃g,f=g+1:=⟨f-1,by simp at hf;omega⟩;have ihp:=ih p hp f (by simp at hf;omega) (fun c m h=>hz c (m++[b]) (by rw[h];rfl));have hb:b.toNat<256:=b.toNat_lt;rw[nC];have hnz:val p*256+b.toNat≠0:=by
    by_cases hpe:p=[]
    ·subst hpe;have hb0:=hz b [] rfl;have:b.toNat≠0:=fun h=>hb0 (by apply UInt8.toNat_inj.1;simpa using h);omega
    ·have:=ihp.2 hpe;omega
   refine⟨?_,fun _=>hnz⟩;rw[xn,if_neg hnz,show(val p*256+b.toNat)/256=val p by omega,ihp.1,show(val p*256+b.toNat)%256=b.toNat by omega];simp
 intro f hf hz;exact(key l.length l rfl f hf hz).1
theorem qlM(l:List UInt8)(hl:l.length≤8)(hz:∀b m,l=b::m→b≠0):zE (val l)=l:=qi3 l 8 hl hz
theorem qi4(n:Nat)(h:n<18446744073709551616)(b:UInt8)(m:List UInt8)(e:zE n=b::m):b≠0:=by
 have key:∀(f n:Nat),n<256 ^ f→∀b m,xn f n=b::m→b≠0:=by
  intro f
  induction f with
  | zero=>intro n _ b m e;simp[xn]at e
  | succ f ih =>
   intro n hn b m e;by_cases h0:n=0
   ·subst h0;simp[xn]at e
   ·have h1:n/256<256 ^ f:=by
       rw[Nat.pow_succ]at hn;exact(Nat.div_lt_iff_lt_mul (by omega)).2 hn
    rw[xn,if_neg h0]at e;by_cases hq:n/256=0
    ·rw[hq,bT]at e;simp at e;intro hb;have:(UInt8.ofNat (n%256)).toNat=0:=by rw[e.1,hb];rfl
     simp[UInt8.toNat_ofNat']at this;omega
    ·cases hd:xn f (n/256)with
     | nil =>
      have v:=ix f _ h1;rw[hd]at v;exact absurd v.symm hq
     | cons c r =>
      rw[hd]at e;simp at e;rw[← e.1];exact ih _ h1 c r hd
 exact key 8 n (by simpa using h) b m e
def rdNum (l:List UInt8):Option (Nat × List UInt8) :=
 match l with
 | []=>none
 | k::r =>
  if 8<k.toNat then none
  else if r.length<k.toNat then none
  else if (r.take k.toNat).head? = some 0 then none
  else some (val (r.take k.toNat),r.drop k.toNat)
def jb (l:List UInt8):Option (List UInt8 × List UInt8) :=
 match rdNum l with
 | none=>none
 | some (n,r)=>if r.length<n then none else some (r.take n,r.drop n)
theorem um (n:Nat)(h:n<18446744073709551616)(r:List UInt8):rdNum (zu n++r)=some (n,r):=by
 have hl:=jJ n;have e:(UInt8.ofNat (zE n).length).toNat=(zE n).length:=kG _ (by omega);have ht:(zE n++r).take (zE n).length=zE n:=by simp
 have hh:¬ (zE n).head? = some 0:=by
  intro hc;cases hd:zE n with
  | nil=>rw[hd]at hc;simp at hc
  | cons b m =>
   rw[hd]at hc;simp at hc;exact qi4 n h b m hd hc
 show rdNum (UInt8.ofNat (zE n).length::(zE n++r))=_;unfold rdNum;simp only[e];rw[if_neg (by omega),if_neg (by simp),ht,if_neg hh,qlK n h];simp
theorem nD (t:List UInt8)(h:t.length<18446744073709551616)(r:List UInt8):jb (bB t++r)=some (t,r):=by
 unfold jb bB;rw[List.append_assoc,um _ h];simp
theorem dx (l:List UInt8)(n:Nat)(r:List UInt8)(h:rdNum l=some (n,r)):l=zu n++r∧n<18446744073709551616:=by
 cases l with
 | nil=>simp[rdNum]at h
 | cons k q =>
  unfold rdNum at h;by_cases h1:8<k.toNat
  ·simp[h1]at h
  by_cases h2:q.length<k.toNat
  ·simp[h1,h2]at h
  by_cases h3:(q.take k.toNat).head? = some 0
  ·simp[h1,h2,h3]at h
  ·simp only[h1,h2,h3,if_false,Option.some.injEq,Prod.mk.injEq]at h;obtain⟨rfl,rfl⟩:=h;have hl:(q.take k.toNat).length=k.toNat:=by simp;omega
   have hz:∀b m,q.take k.toNat=b::m→b≠0:=by
    intro b m e hb;apply h3;rw[e,hb];rfl
   have hd:=qlM (q.take k.toNat) (by omega) hz;refine⟨?_,qlL _ (by omega)⟩;unfold zu;rw[hd,hl];have ek:UInt8.ofNat k.toNat=k:=by simp
   rw[ek];simp
def flat (ps:List ByteArray):List UInt8:=(ps.map bl).flatten
theorem qi5(ps:List ByteArray)(k:Nat)(h:k<ps.length):flat (ps.take (k+1))=flat (ps.take k)++bl ps[k]:=by
 unfold flat;rw[List.take_succ_eq_append_getElem h,List.map_append,List.flatten_append];simp
theorem sf (ps:List ByteArray)(k:Nat):(flat (ps.take k)).length≤(flat ps).length:=by
 have:flat ps=flat (ps.take k)++flat (ps.drop k):=by
  unfold flat;rw[← List.flatten_append,← List.map_append,List.take_append_drop]
 rw[this];simp
end Go.Proofs.YtdpbdkacngaemaaGreatDoor.wi
namespace Go.Proofs.YtdpbdkacngaemaaGreatDoor.mt
def nsec (n:Nat):Nat:=(n+37)/32
end Go.Proofs.YtdpbdkacngaemaaGreatDoor.mt
namespace Go.Proofs.YtdpbdkacngaemaaGreatDoor.mt
open _root_.Go.Proofs.Tryz Go Go.RowKit im wi
abbrev Gd:=Nat × Nat
def xB (g:Gd):Prop:=g.1<18446744073709551616∧g.2<18446744073709551616
structure Sp where
 g:Gd
 qp:List Int
 hid:Bool
 deriving DecidableEq
structure Tk where
 base:Gd
 target:Gd
 next:Int
 all:Int
 qp:List Int
 deriving DecidableEq
structure Mt where
 live:List Int
 qc:List Sp
 tok:Tk
 deriving DecidableEq
def yB:Tk:=⟨(0,0),(0,0),0,0,[]⟩
def mt0:Mt:=⟨[],[],yB⟩
def above (a b:Gd):Bool:=decide (b.1<a.1) || (decide (a.1=b.1)&&decide (b.2<a.2))
def yc (b n:Int):Gd→List Sp→Int × Gd
 | last,[]=>(0,last)
 | last,s::r=>if above s.g last=true then(if zH s.qp b n=0 then yc b n s.g r else(zH s.qp b n,s.g))else(2,last)
def qa5 (t:Tk):Bool:=decide (t.base=(0,0))&&decide (t.next=0)&&decide (t.all=0)&&decide (t.qp=[])
def dy (t:Tk)(last:Gd)(b:Int):Bool:=!decide (t.base=last) || !above t.target last || decide (t.next<1) || decide (t.all≤t.next) || decide (b<t.all)
def uw (b n:Int)(last:Gd)(t:Tk):Int :=
 if t.target=(0,0)then(if qa5 t=true then 0 else 2)else if dy t last b=true then 2 else zH t.qp b n
def xo (m:Mt)(b n:Int):Int :=
 if zH m.live b n≠0 then zH m.live b n
 else if 20<m.qc.length then 3
 else if (yc b n (0,0) m.qc).1≠0 then(yc b n (0,0) m.qc).1
 else uw b n (yc b n (0,0) m.qc).2 m.tok
def xI (z:Int):List UInt8:=zu z.toNat
def zq (l:List Int):List UInt8:=l.flatMap xI
def jS (g:Gd):List UInt8:=zu g.1++zu g.2
def spB (s:Sp):List UInt8:=jS s.g++(zu (if s.hid then 1 else 0)++zq s.qp)
def jh (l:List Sp):List UInt8:=l.flatMap spB
def tkB (t:Tk):List UInt8:=if t.target=(0,0)then zu 0 else zu 1++(jS t.base++(jS t.target++(xI t.next++(xI t.all++zq t.qp))))
def zA (m:Mt):List UInt8:=zu m.live.length++(zq m.live++(zu m.qc.length++(jh m.qc++tkB m.tok)))
def gU (m:Mt):List UInt8 × Int :=
 if xo m m.live.length 1024≠0 then([],xo m m.live.length 1024)else if 48<nsec (zA m).length then([],3)else(zA m,0)
abbrev St:=Option (List UInt8)
def zX (s:St):Nat × St:=match s with
 | none=>(0,none)
 | some l=>match rdNum l with
  | none=>(0,none)
  | some (n,r)=>(n,some r)
def ux (s:St):Nat × St:=(min (zX s).1 1048576,(zX s).2)
def lG:Nat→St→List Int × St
 | 0,s=>([],s)
 | n+1,s=>(((ux s).1:Int)::(lG n (ux s).2).1,(lG n (ux s).2).2)
def kS (s:St):Gd × St:=(((zX s).1,(zX (zX s).2).1),(zX (zX s).2).2)
def spS (b:Nat)(s:St):Sp × St :=
 let g:=kS s;let h:=ux g.2;let i:=lG b h.2
 (⟨g.1,i.1,decide (h.1=1)⟩,i.2)
def qa6 (b:Nat):Nat→St→List Sp × St
 | 0,s=>([],s)
 | n+1,s=>((spS b s).1::(qa6 b n (spS b s).2).1,(qa6 b n (spS b s).2).2)
def tkS (b:Nat)(s:St):Tk × St :=
 let f:=ux s
 if f.1=1 then
  let x:=kS f.2;let y:=kS x.2;let n:=ux y.2;let a:=ux n.2;let i:=lG b a.2
  (⟨x.1,y.1,n.1,a.1,i.1⟩,i.2)
 else(yB,f.2)
def mS (s:St):Mt × St :=
 let k:=ux s;let b:=min k.1 100;let l:=lG b k.2;let c:=ux l.2;let ss:=qa6 b (min c.1 100) c.2;let t:=tkS b ss.2
 (⟨l.1,ss.1,t.1⟩,t.2)
def nE (s:List UInt8):Mt × Int:=if gU (mS (some s)).1=(s,0)then((mS (some s)).1,0)else(mt0,4)
theorem yC (n:Nat)(h:n<18446744073709551616)(r:List UInt8):zX (some (zu n++r))=(n,some r):=by
 unfold zX;simp only[um n h]
theorem yD (n:Nat)(h:n≤1048576)(r:List UInt8):ux (some (zu n++r))=(n,some r):=by
 unfold ux;rw[yC n (by omega)];simp only[Nat.min_eq_left h]
def yv (l:List Int):Prop:=∀z∈l,0≤z∧z≤1048576
theorem aF:∀(l:List Int) (_:yv l) (r:List UInt8),lG l.length (some (zq l++r))=(l,some r)
 | [],_,r=>rfl
 | z::l,h,r=>by
  have hz:=h z (by simp);have e:zq (z::l)++r=zu z.toNat++(zq l++r):=by simp[zq,xI]
  show lG (l.length+1) (some (zq (z::l)++r))=_;rw[e];unfold lG;rw[yD _ (by omega)];simp only;rw[aF l (fun x hx=>h x (by simp[hx])) r];simp only[Int.toNat_of_nonneg hz.1]
theorem uZ (g:Gd)(h:xB g)(r:List UInt8):kS (some (jS g++r))=(g,some r):=by
 unfold kS jS;rw[List.append_assoc,yC _ h.1];simp only;rw[yC _ h.2]
def qu1 (b:Nat)(s:Sp):Prop:=xB s.g∧s.qp.length=b∧yv s.qp
theorem qqw(b:Nat)(s:Sp)(h:qu1 b s)(r:List UInt8):spS b (some (spB s++r))=(s,some r):=by
 obtain⟨h1,h2,h3⟩:=h;unfold spS spB;rw[List.append_assoc,uZ _ h1];simp only;rw[List.append_assoc,yD _ (by split <;> omega)];simp only;rw[← h2,aF _ h3];cases s with|mk g qp hid=>cases hid <;> rfl
theorem qco(b:Nat):∀(l:List Sp) (_:∀s∈l,qu1 b s) (r:List UInt8),qa6 b l.length (some (jh l++r))=(l,some r)
 | [],_,r=>rfl
 | s::l,h,r=>by
  have e:jh (s::l)++r=spB s++(jh l++r):=by simp[jh]
  show qa6 b (l.length+1) (some (jh (s::l)++r))=_;rw[e];unfold qa6;rw[qqw b s (h s (by simp))];simp only;rw[qco b l (fun x hx=>h x (by simp[hx])) r]
def ew (b:Nat)(t:Tk):Prop:=if t.target=(0,0)then t=yB else xB t.base∧xB t.target∧(0≤t.next∧t.next≤1048576)∧(0≤t.all∧t.all≤1048576)∧t.qp.length=b∧yv t.qp
theorem qqx(b:Nat)(t:Tk)(h:ew b t)(r:List UInt8):tkS b (some (tkB t++r))=(t,some r):=by
 unfold ew at h;unfold tkB;by_cases h0:t.target=(0,0)
 ·rw[if_pos h0]at h ⊢;unfold tkS;rw[yD 0 (by omega),h];rfl
 ·rw[if_neg h0]at h ⊢;obtain⟨h1,h2,h3,h4,h5,h6⟩:=h;unfold tkS;simp only[List.append_assoc];rw[yD 1 (by omega)];simp only[if_true];rw[uZ _ h1];simp only;rw[uZ _ h2];simp only;unfold xI;rw[yD _ (by omega)];simp only;rw[yD _ (by omega)];simp only;rw[← h5,aF _ h6];simp only[Int.toNat_of_nonneg h3.1,Int.toNat_of_nonneg h4.1]
structure qyr(m:Mt):Prop where
 b:m.live.length≤100
 live:yv m.live
 few:m.qc.length≤100
 qc:∀s∈m.qc,qu1 m.live.length s
 tok:ew m.live.length m.tok
theorem qu2(m:Mt)(h:qyr m)(r:List UInt8):mS (some (zA m++r))=(m,some r):=by
 have hb:=h.b;have hf:=h.few;unfold mS zA;simp only[List.append_assoc];rw[yD _ (by omega)];simp only[Nat.min_eq_left hb];rw[aF _ h.live];simp only;rw[yD _ (by omega)];simp only[Nat.min_eq_left hf];rw[qco _ _ h.qc];simp only;rw[qqx _ _ h.tok]
theorem kd {l:List Int}{b n:Int}(h:zH l b n=0):1≤b∧b≤8∧(l.length:Int)=b∧∀z∈l,z=0∨(193≤z∧z<n):=by
 unfold zH at h;split at h
 ·cases h
 ·rename_i h1;split at h
  ·cases h
  ·rename_i h2;refine⟨by omega,by omega,by omega,fun z hz=>?_⟩;have hb:gS n z=false:=by
    cases hc:gS n z with
    | false=>rfl
    | true=>exact absurd (List.any_eq_true.2 ⟨z,hz,hc⟩) h2
   unfold gS at hb;by_cases hz0:z=0
   ·exact .inl hz0
   ·rw[decide_eq_true hz0,Bool.true_and]at hb;simp only[Bool.or_eq_false_iff,decide_eq_false_iff_not]at hb;exact .inr (by omega)
theorem qa7{l:List Int}{b:Int}(h:zH l b 1024=0):yv l:=fun z hz=>by
 rcases(kd h).2.2.2 z hz with h|h <;> omega
structure mB(m:Mt):Prop where
 qc:∀s∈m.qc,xB s.g
 base:xB m.tok.base
 target:xB m.tok.target
theorem nG {b n:Int}:∀ {l:List Sp} {last:Gd},(yc b n last l).1=0→∀s∈l,zH s.qp b n=0
 | [],_,_,s,hs=>absurd hs (by simp)
 | x::r,last,h,s,hs=>by
  unfold yc at h;split at h
  ·split at h
   ·rename_i h2;rcases List.mem_cons.1 hs with rfl|hs
    ·exact h2
    ·exact nG h s hs
   ·rename_i h2;exact absurd h h2
  ·cases h
theorem dz {m:Mt}(hB:mB m)(h:xo m m.live.length 1024=0):qyr m∧1≤m.live.length∧m.live.length≤8∧m.qc.length≤20:=by
 unfold xo at h;split at h
 ·rename_i h1;exact absurd h h1
 rename_i h1;have h1':zH m.live m.live.length 1024=0:=Classical.byContradiction h1;split at h
 ·cases h
 rename_i h2;split at h
 ·rename_i h3;exact absurd h h3
 rename_i h3;have h3':=Classical.byContradiction h3;have hl:=kd h1';refine⟨⟨by omega,qa7 h1',by omega,fun s hs=>?_,?_⟩,by omega,by omega,by omega⟩
 ·have:=nG h3' s hs;have hi:=kd this;exact⟨hB.qc s hs,by omega,qa7 this⟩
 ·unfold ew;unfold uw at h;split at h
  ·rename_i h4;rw[if_pos h4];split at h
   ·rename_i h5;unfold qa5 at h5;simp only[Bool.and_eq_true,decide_eq_true_eq]at h5;obtain⟨⟨⟨e1,e2⟩,e3⟩,e4⟩:=h5;generalize m.tok=t at *;cases t;simp only at e1 e2 e3 e4 h4;subst e1 e2 e3 e4 h4;rfl
   ·cases h
  ·rename_i h4;rw[if_neg h4];split at h
   ·cases h
   ·rename_i h5;unfold dy at h5;simp only[Bool.or_eq_true,not_or,Bool.not_eq_true,decide_eq_true_eq]at h5;obtain⟨⟨⟨⟨_,_⟩,e3⟩,e4⟩,e5⟩:=h5;have hi:=kd h;exact⟨hB.base,hB.target,by omega,by omega,by omega,qa7 h⟩
theorem qlN{m:Mt}{s:List UInt8}(h:gU m=(s,0)):xo m m.live.length 1024=0∧s=zA m∧nsec s.length≤48:=by
 unfold gU at h;split at h
 ·rename_i h1;exact absurd (Prod.mk.inj h).2 h1
 ·rename_i h1;split at h
  ·cases (Prod.mk.inj h).2
  ·rename_i h2;have:=(Prod.mk.inj h).1;exact⟨Classical.byContradiction h1,this.symm,by rw[← this];omega⟩
theorem qlO{m:Mt}{s:List UInt8}(hB:mB m)(h:gU m=(s,0))(r:List UInt8):mS (some (s++r))=(m,some r):=by
 obtain⟨h1,rfl,_⟩:=qlN h;exact qu2 m (dz hB h1).1 r
theorem qcp{m:Mt}{s:List UInt8}(hB:mB m)(h:gU m=(s,0)):nE s=(m,0):=by
 have:=qlO hB h [];rw[List.append_nil]at this;unfold nE;rw[this,if_pos h]
theorem qa8{m:Mt}{s:List UInt8}(h:nE s=(m,0)):gU m=(s,0)∧m=(mS (some s)).1:=by
 unfold nE at h;split at h
 ·rename_i h1;have:=(Prod.mk.inj h).1;rw[this]at h1;exact⟨h1,this.symm⟩
 ·cases (Prod.mk.inj h).2
theorem qqy(s:List UInt8):(∃m,nE s=(m,0))∨nE s=(mt0,4):=by
 unfold nE;split
 ·exact .inl ⟨_,rfl⟩
 ·exact .inr rfl
theorem qa9(s:St):(zX s).1<18446744073709551616:=by
 unfold zX;split
 ·decide
 ·split
  ·decide
  ·rename_i l n r h;exact(dx _ _ _ h).2
theorem tj (s:St):xB (kS s).1:=⟨qa9 _,qa9 _⟩
theorem qlP(b:Nat):∀(n:Nat) (s:St),∀x∈(qa6 b n s).1,xB x.g
 | 0,_,x,hx=>absurd hx (by simp[qa6])
 | n+1,s,x,hx=>by
  unfold qa6 at hx;simp only[List.mem_cons]at hx;rcases hx with rfl|hx
  ·exact tj _
  ·exact qlP b n _ x hx
theorem bU:xB (0,0):=⟨by decide,by decide⟩
theorem qtf(b:Nat)(s:St):xB (tkS b s).1.base∧xB (tkS b s).1.target:=by
 unfold tkS;dsimp only;split
 ·exact⟨tj _,tj _⟩
 ·exact⟨bU,bU⟩
theorem q3E(s:St):mB (mS s).1:=⟨fun x hx=>qlP _ _ _ x hx,(qtf _ _).1,(qtf _ _).2⟩
theorem qyt{m:Mt}{s:List UInt8}(h:nE s=(m,0)):mB m:=by
 rw[(qa8 h).2];exact q3E _
end Go.Proofs.YtdpbdkacngaemaaGreatDoor.mt
namespace Go.Proofs.YtdpbdkacngaemaaGreatDoor.mt.pg
open _root_.Go.Proofs.Tryz Go Go.RowKit im wi mt
def kP (k:Nat)(s:St):Nat × St:=(min (zX s).1 (k+1),(zX s).2)
def gV:Nat→St→List Int × St
 | 0,s=>([],s)
 | n+1,s=>(((kP 1024 s).1:Int)::(gV n (kP 1024 s).2).1,(gV n (kP 1024 s).2).2)
def nH (b:Nat)(s:St):Sp × St:=(⟨(kS s).1,(gV b (zX (kS s).2).2).1,decide ((zX (kS s).2).1=1)⟩,(gV b (zX (kS s).2).2).2)
def uz (b:Nat):Nat→St→List Sp × St
 | 0,s=>([],s)
 | n+1,s=>((nH b s).1::(uz b n (nH b s).2).1,(uz b n (nH b s).2).2)
def sg (b:Nat)(s:St):Tk × St :=
 (⟨(kS s).1,(kS (kS s).2).1,(kP 8 (kS (kS s).2).2).1,(kP 8 (kP 8 (kS (kS s).2).2).2).1,(gV b (kP 8 (kP 8 (kS (kS s).2).2).2).2).1⟩,(gV b (kP 8 (kP 8 (kS (kS s).2).2).2).2).2)
def lH (s:St):List Int × St:=gV (kP 8 s).1 (kP 8 s).2
def qeM (s:St):List Sp × St:=uz (kP 8 s).1 (kP 20 (lH s).2).1 (kP 20 (lH s).2).2
def mP (s:St):Mt:=⟨(lH s).1,(qeM s).1,if (zX (qeM s).2).1=1 then(sg (kP 8 s).1 (zX (qeM s).2).2).1 else yB⟩
theorem iy (k:Nat)(s:St):(kP k s).1≤k+1:=by unfold kP;dsimp only;omega
theorem ud:∀(n:Nat) (s:St),(gV n s).1.length=n
 | 0,_=>rfl
 | n+1,s=>by simp[gV,ud n]
theorem qaA:∀(n:Nat) (s:St),yv (gV n s).1
 | 0,_=>fun z hz=>absurd hz (by simp[gV])
 | n+1,s=>fun z hz=>by
  have h:=iy 1024 s;simp only[gV,List.mem_cons]at hz;rcases hz with rfl|hz
  ·omega
  ·exact qaA n _ z hz
theorem qcq:∀(n:Nat) (s:St),gV (n+1) s=((gV n s).1++[((kP 1024 (gV n s).2).1:Int)],(kP 1024 (gV n s).2).2)
 | 0,s=>rfl
 | n+1,s=>by
  have ih:=qcq n (kP 1024 s).2;show((((kP 1024 s).1:Int)::(gV (n+1) (kP 1024 s).2).1,(gV (n+1) (kP 1024 s).2).2):List Int × St)=_;rw[ih];rfl
theorem tq (b:Nat):∀(n:Nat) (s:St),uz b (n+1) s=((uz b n s).1++[(nH b (uz b n s).2).1],(nH b (uz b n s).2).2)
 | 0,s=>rfl
 | n+1,s=>by
  have ih:=tq b n (nH b s).2;show(((nH b s).1::(uz b (n+1) (nH b s).2).1,(uz b (n+1) (nH b s).2).2):List Sp × St)=_;rw[ih];rfl
theorem qlQ(b:Nat)(s:St):yv (nH b s).1.qp∧(nH b s).1.qp.length=b∧xB (nH b s).1.g:=⟨qaA _ _,ud _ _,tj _⟩
theorem qaB(b:Nat):∀(n:Nat) (s:St),∀x∈(uz b n s).1,yv x.qp∧x.qp.length=b∧xB x.g
 | 0,_,x,hx=>absurd hx (by simp[uz])
 | n+1,s,x,hx=>by
  unfold uz at hx;simp only[List.mem_cons]at hx;rcases hx with rfl|hx
  ·exact qlQ b s
  ·exact qaB b n _ x hx
theorem ey (k n:Nat)(h:n≤k)(hk:k≤2000)(r:List UInt8):kP k (some (zu n++r))=(n,some r):=by
 unfold kP;rw[yC n (by omega)];simp only[Nat.min_eq_left (show n≤k+1 by omega)]
def tight (l:List Int):Prop:=∀z∈l,0≤z∧z≤1024
theorem mW:∀(l:List Int) (_:tight l) (r:List UInt8),gV l.length (some (zq l++r))=(l,some r)
 | [],_,r=>rfl
 | z::l,h,r=>by
  have hz:=h z (by simp);have e:zq (z::l)++r=zu z.toNat++(zq l++r):=by simp[zq,xI]
  show gV (l.length+1) (some (zq (z::l)++r))=_;rw[e];unfold gV;rw[ey 1024 _ (by omega) (by omega)];simp only;rw[mW l (fun x hx=>h x (by simp[hx])) r];simp only[Int.toNat_of_nonneg hz.1]
theorem qqz(b:Nat)(s:Sp)(h1:xB s.g)(h2:s.qp.length=b)(h3:tight s.qp)(r:List UInt8):nH b (some (spB s++r))=(s,some r):=by
 unfold nH spB;rw[List.append_assoc,uZ _ h1];simp only;rw[List.append_assoc,yC _ (by split <;> omega)];simp only;rw[← h2,mW _ h3];cases s with|mk g qp hid=>cases hid <;> rfl
theorem qcr(b:Nat):∀(l:List Sp) (_:∀s∈l,xB s.g∧s.qp.length=b∧tight s.qp) (r:List UInt8),uz b l.length (some (jh l++r))=(l,some r)
 | [],_,r=>rfl
 | s::l,h,r=>by
  have e:jh (s::l)++r=spB s++(jh l++r):=by simp[jh]
  have hs:=h s (by simp);show uz b (l.length+1) (some (jh (s::l)++r))=_;rw[e];unfold uz;rw[qqz b s hs.1 hs.2.1 hs.2.2];simp only;rw[qcr b l (fun x hx=>h x (by simp[hx])) r]
structure qtg(m:Mt):Prop where
 b:m.live.length≤8
 live:tight m.live
 few:m.qc.length≤20
 qc:∀s∈m.qc,xB s.g∧s.qp.length=m.live.length∧tight s.qp
 tok:if m.tok.target=(0,0)then m.tok=yB else xB m.tok.base∧xB m.tok.target∧(0≤m.tok.next∧m.tok.next≤8)∧(0≤m.tok.all∧m.tok.all≤8)∧m.tok.qp.length=m.live.length∧tight m.tok.qp
theorem qq0(b:Nat)(t:Tk)(h:xB t.base∧xB t.target∧(0≤t.next∧t.next≤8)∧(0≤t.all∧t.all≤8)∧t.qp.length=b∧tight t.qp)(r:List UInt8) :
    sg b (some ((jS t.base++(jS t.target++(xI t.next++(xI t.all++zq t.qp))))++r))=(t,some r):=by
 obtain⟨h1,h2,h3,h4,h5,h6⟩:=h;unfold sg;simp only[List.append_assoc];rw[uZ _ h1];simp only;rw[uZ _ h2];simp only;unfold xI;rw[ey 8 _ (by omega) (by omega)];simp only;rw[ey 8 _ (by omega) (by omega)];simp only;rw[← h5,mW _ h6];simp only[Int.toNat_of_nonneg h3.1,Int.toNat_of_nonneg h4.1]
theorem qu3(m:Mt)(h:qtg m):mP (some (zA m))=m:=by
 have h1:kP 8 (some (zA m))=(m.live.length,some (zq m.live++(zu m.qc.length++(jh m.qc++tkB m.tok)))):=by
  unfold zA;exact ey 8 _ h.b (by omega) _
 have h2:lH (some (zA m))=(m.live,some (zu m.qc.length++(jh m.qc++tkB m.tok))):=by
  unfold lH;rw[h1];exact mW _ h.live _
 have h3:qeM (some (zA m))=(m.qc,some (tkB m.tok)):=by
  unfold qeM;rw[h2,h1,ey 20 _ h.few (by omega)];exact qcr _ _ h.qc _
 unfold mP;rw[h3,h2,h1];dsimp only;have ht:=h.tok;unfold tkB;by_cases h0:m.tok.target=(0,0)
 ·rw[if_pos h0]at ht;rw[if_pos h0];have:=yC 0 (by omega) [];rw[List.append_nil]at this;rw[this,if_neg (by decide),← ht]
 ·rw[if_neg h0]at ht;rw[if_neg h0,yC 1 (by omega)];simp only[if_true];have:=qq0 m.live.length m.tok ht [];rw[List.append_nil]at this;rw[this]
theorem qlR{m:Mt}(hB:mB m)(h:xo m m.live.length 1024=0):qtg m:=by
 obtain⟨hok,hl1,hl8,q3F⟩:=dz hB h;unfold xo at h;split at h
 ·rename_i h1;exact absurd h h1
 rename_i h1;have h1':zH m.live m.live.length 1024=0:=Classical.byContradiction h1;split at h
 ·cases h
 split at h
 ·rename_i h3;exact absurd h h3
 rename_i h3;have h3':=Classical.byContradiction h3;have tg:∀ {l:List Int} {b:Int},zH l b 1024=0→tight l:=fun h z hz=>by
  rcases(kd h).2.2.2 z hz with h|h <;> omega
 refine⟨hl8,tg h1',q3F,fun s hs=>?_,?_⟩
 ·have:=nG h3' s hs;have hi:=kd this;exact⟨hB.qc s hs,by omega,tg this⟩
 ·have ht:=hok.tok;unfold ew at ht;unfold uw at h;by_cases h4:m.tok.target=(0,0)
  ·rw[if_pos h4]at ht ⊢;exact ht
  ·rw[if_neg h4]at h ⊢;split at h
   ·cases h
   ·rename_i h5;unfold dy at h5;simp only[Bool.or_eq_true,not_or,Bool.not_eq_true,decide_eq_true_eq]at h5;obtain⟨⟨⟨⟨_,_⟩,e3⟩,e4⟩,e5⟩:=h5;have hi:=kd h;exact⟨hB.base,hB.target,by omega,by omega,by omega,tg h⟩
theorem qlS(b:Nat)(s:St):xB (sg b s).1.base∧xB (sg b s).1.target:=⟨tj _,tj _⟩
theorem q3G(s:St):mB (mP s):=by
 refine⟨fun x hx=>(qaB _ _ _ x hx).2.2,?_,?_⟩
 ·show xB (if _ then _ else yB:Tk).base;split
  ·exact(qlS _ _).1
  ·exact bU
 ·show xB (if _ then _ else yB:Tk).target;split
  ·exact(qlS _ _).2
  ·exact bU
theorem qu4(s:List UInt8):nE s=if gU (mP (some s))=(s,0)then(mP (some s),0)else(mt0,4):=by
 by_cases h:gU (mP (some s))=(s,0)
 ·rw[if_pos h];exact qcp (q3G _) h
 ·rw[if_neg h];rcases qqy s with⟨m,h1⟩|h1
  ·exfalso;have h2:=(qa8 h1).1;have h3:=qlN h2;apply h;rw[h3.2.1,qu3 m (qlR (qyt h1) h3.1),← h3.2.1];exact h2
  ·exact h1
end Go.Proofs.YtdpbdkacngaemaaGreatDoor.mt.pg
namespace Go.Proofs
open _root_.Go.Proofs.Tryz Go.Shelf
def Tryz.qcs:Go.Shelf.Ren:=⟨fun | 129=>295|n=>n,fun | 53=>36 | 3=>3 | 4=>4 | 46=>281 | 5=>5 | 9=>9|n=>n,fun|n=>n⟩
theorem Tryz.qq1:Go.Proofs.Lays.n129 prog Tryz.qcs:={
 mixed:=by kernel_rfl
 f129:=func295.trans (congrArg some (by kernel_rfl))
 t3:=underlying3
 a3:=isAgg3
 z3:=sizeOf3
 v3:=zeroValue3
 t4:=underlying4
 a4:=isAgg4
 z4:=sizeOf4
 v4:=zeroValue4
 t5:=underlying5
 a5:=isAgg5
 z5:=sizeOf5
 v5:=zeroValue5
 t9:=underlying9
 a9:=isAgg9
 z9:=sizeOf9
 v9:=zeroValue9
 t46:=underlying281
 a46:=isAgg281
 z46:=sizeOf281
 v46:=zeroValue281
 t53:=underlying36
 a53:=isAgg36
 z53:=sizeOf36
 v53:=zeroValue36 }
theorem Tryz.bits_Len64(x:Int)(w:World)(h0:0≤x)(h1:x≤18446744073709551615) :
    Calls prog 295 #[.int .u64 x] w fun e w'=>e=.returned (.int .i64 (Lib.bitLen x.toNat))∧w'=w:=Any.bits_Len64 Tryz.qq1 x w h0 h1
def Tryz.lI:Go.Shelf.Ren:=⟨fun | 166=>235 | 240=>273 | 276=>289|n=>n,fun | 0=>0 | 3=>3 | 4=>4 | 9=>9 | 20=>20 | 37=>64 | 70=>294 | 72=>296 | 75=>298 | 164=>345 | 5=>5 | 80=>226|n=>n,fun|n=>n⟩
theorem Tryz.qq2:Go.Proofs.Lays.n166 prog Tryz.lI:={
 mixed:=by kernel_rfl
 f166:=func235.trans (congrArg some (by kernel_rfl))
 f240:=func273.trans (congrArg some (by kernel_rfl))
 f276:=func289.trans (congrArg some (by kernel_rfl))
 t0:=underlying0
 a0:=isAgg0
 z0:=sizeOf0
 v0:=zeroValue0
 t3:=underlying3
 a3:=isAgg3
 z3:=sizeOf3
 v3:=zeroValue3
 t4:=underlying4
 a4:=isAgg4
 z4:=sizeOf4
 v4:=zeroValue4
 t9:=underlying9
 a9:=isAgg9
 z9:=sizeOf9
 v9:=zeroValue9
 t20:=underlying20
 a20:=isAgg20
 z20:=sizeOf20
 v20:=zeroValue20
 t37:=underlying64
 a37:=isAgg64
 z37:=sizeOf64
 v37:=zeroValue64
 t70:=underlying294
 a70:=isAgg294
 z70:=sizeOf294
 v70:=zeroValue294
 t72:=underlying296
 a72:=isAgg296
 z72:=sizeOf296
 v72:=zeroValue296
 t75:=underlying298
 a75:=isAgg298
 z75:=sizeOf298
 v75:=zeroValue298
 t164:=underlying345
 a164:=isAgg345
 z164:=sizeOf345
 v164:=zeroValue345 }
theorem Tryz.eA:Builder.Extra prog Tryz.lI:={
 sizeBuilder:=by kernel_rfl
 liesBuilder:=by kernel_rfl
 t5:=underlying5
 a5:=isAgg5
 z5:=sizeOf5
 v5:=zeroValue5
 infoByte:=by kernel_rfl
 cellsByte:=by kernel_rfl
 sizeByte:=by kernel_rfl
 neB5:=by decide }
open Go.RowKit in
theorem Tryz.Builder_WriteString(B b:Nat)(bs:List Value)(s:ByteArray)(w:World)(h:Lib.IsBuilder 296 5 B b bs w)(hlen:bs.length+s.size≤140737488355328)(hBw:B≤w.heap.size) :
    Calls prog 235 #[.pointer (some ⟨b,0,none⟩),.string s] w fun e w'=>e=.returned (.tuple #[.int .i64 s.size,.nilIface])∧(Lib.BuilderAt 296 5 B b (.pointer (some ⟨b,0,none⟩)) (bs++Lib.strCells s) w'∧Below B w w'):=Any.Builder_WriteString Tryz.qq2 Tryz.eA B b bs s w h hlen hBw
def Tryz.lJ:Go.Shelf.Ren:=⟨fun | 169=>237|n=>n,fun | 70=>294 | 9=>9 | 0=>0 | 72=>296 | 37=>64 | 127=>330 | 3=>3 | 5=>5|n=>n,fun|n=>n⟩
theorem Tryz.qq3:Go.Proofs.Lays.n169 prog Tryz.lJ:={
 mixed:=by kernel_rfl
 f169:=func237.trans (congrArg some (by kernel_rfl))
 t0:=underlying0
 a0:=isAgg0
 z0:=sizeOf0
 v0:=zeroValue0
 t3:=underlying3
 a3:=isAgg3
 z3:=sizeOf3
 v3:=zeroValue3
 t9:=underlying9
 a9:=isAgg9
 z9:=sizeOf9
 v9:=zeroValue9
 t37:=underlying64
 a37:=isAgg64
 z37:=sizeOf64
 v37:=zeroValue64
 t70:=underlying294
 a70:=isAgg294
 z70:=sizeOf294
 v70:=zeroValue294
 t72:=underlying296
 a72:=isAgg296
 z72:=sizeOf296
 v72:=zeroValue296
 t127:=underlying330
 a127:=isAgg330
 z127:=sizeOf330
 v127:=zeroValue330 }
theorem Tryz.eB:Builder.Extra prog Tryz.lJ:={
 sizeBuilder:=by kernel_rfl
 liesBuilder:=by kernel_rfl
 t5:=underlying5
 a5:=isAgg5
 z5:=sizeOf5
 v5:=zeroValue5
 infoByte:=by kernel_rfl
 cellsByte:=by kernel_rfl
 sizeByte:=by kernel_rfl
 neB5:=by decide }
open Go.RowKit in
theorem Tryz.Builder_String_any(B b:Nat)(l:List UInt8)(w:World)(h:Lib.IsBuilder 296 5 B b (Lib.byteCells l) w)(hBw:B≤w.heap.size) :
    Calls prog 237 #[.pointer (some ⟨b,0,none⟩)] w fun e w'=>e=.returned (.string ⟨l.toArray⟩)∧Below B w w':=Any.Builder_String_any Tryz.qq3 Tryz.eB B b l w h hBw
end Go.Proofs
namespace Go.Proofs.YtdpbdkacngaemaaGreatDoor
open _root_.Go.Proofs.Tryz Go.RowKit
theorem Tryz.qlT:(prog.info? 9).map (fun i=>(i.zero,i.size,i.bytes))=some (some (.string ByteArray.empty),1,16):=by kernel_rfl
theorem Tryz.nI:(prog.info? 5).map (fun i=>(i.zero,i.size,i.bytes))=some (some (.int .u8 0),1,1):=by kernel_rfl
end Go.Proofs.YtdpbdkacngaemaaGreatDoor
namespace Go.Proofs.YtdpbdkacngaemaaGreatDoor.wi
open _root_.Go.Proofs.Tryz Go.RowKit
theorem tr (n:Int)(w:World)(h0:0≤n)(h1:n≤18446744073709551615) :
    Calls prog 291 #[.int .u64 n] w fun e w'=>e=.returned (.int .i64 ((zE n.toNat).length:Nat))∧w=w':=by
 have hc:=count_eq n.toNat (by omega);have hb:Lib.bitLen n.toNat≤64:=Lib.bitLen_le _ 64 (by omega) (by omega);have e1:((zE n.toNat).length:Int)=((Lib.bitLen n.toNat:Nat)+7:Int)/8:=by omega
 have E1:=QH e1;clear e1 hc;go_enter func291,ntmps291;go_wp2_with (go_at_call 295;refine(Tryz.bits_Len64 n _ h0 h1).mono ?_;rintro e w' ⟨rfl,rfl⟩);go_ret;exact⟨by rw[E1.out];rfl,rfl⟩
def qlU (n:Nat)(w:World)(e:Ending)(w':World):Prop :=
 e=.returned (.string (str [UInt8.ofNat (zE n).length]))∧Below w.heap.size w w'
theorem qyu(k:Nat)(hk:k<256)(w:World) :
    (convert 64 9 (.slice (some ⟨w.heap.size,0,none⟩) 1 1)).run prog (w.alloc (.cells #[.int .u8 (k:Int)] 5))=.ok (.string (str [UInt8.ofNat k])) (w.alloc (.cells #[.int .u8 (k:Int)] 5)):=by
 refine run_convert_bytes_back (P:=prog) _ 64 9 5 ⟨w.heap.size,0,none⟩ 1 [UInt8.ofNat k] underlying64 underlying5 underlying9 ?_;intro j hj;have:j=0:=by simpa using hj
 subst this;have e:(UInt8.ofNat k).toNat=k:=kG k hk;simp[Addr.add,e,World.cell?,World.alloc,-World.alloc_eq]
theorem eC (n:Int)(w:World)(h0:0≤n)(h1:n≤18446744073709551615) :
    Calls prog 277 #[.int .u64 n] w (qlU n.toNat w):=by
 have hl:=jJ n.toNat;have hcv:=qyu (zE n.toNat).length (by omega) w;go_enter func277,ntmps277;go_wp2_with (go_at_call 291;refine(tr n _ h0 h1).mono ?_;rintro e w' ⟨rfl,rfl⟩);go_ret;exact⟨rfl,(Below.refl _ _).alloc (Nat.le_refl _) _⟩
def ji (D:List UInt8)(k:Nat):List Value:=List.replicate k (.int .u8 0)++Lib.byteCells (D.drop k)
def qct (n:Nat)(w:World)(e:Ending)(w':World):Prop :=
 e=.returned (.string (str (zE n)))∧Below w.heap.size w w'
def qu5 (D:List UInt8)(w:World)(n i:Value)(wr:World):Prop :=
 ∃k m:Nat,i=.int .i64 ((k:Int)-1)∧n=.int .u64 (m:Int)∧m<18446744073709551616∧zE m=D.take k∧k≤D.length ∧
  wr.ownsRow w.heap.size 5 1 (.slice (some ⟨w.heap.size,0,none⟩) D.length D.length) D.length (ji D k)∧Below w.heap.size w wr
theorem qaC(D:List UInt8)(k:Nat)(h:k<D.length):(ji D (k+1)).set k (.int .u8 (D[k].toNat:Int))=ji D k:=by
 unfold ji;rw[List.replicate_succ',List.append_assoc,List.set_append_right _ _ (by simp),List.length_replicate,Nat.sub_self,List.drop_eq_getElem_cons h];rfl
theorem qlV(D:List UInt8)(m k:Nat)(hm:m<18446744073709551616)(hk:k<D.length)(h:zE m=D.take (k+1)) :
    m≠0∧zE (m/256)=D.take k∧D[k].toNat=m%256:=by
 have h0:m≠0:=by
  intro e;subst e;have:=congrArg List.length h;simp[qi2]at this;omega
 have e:=qlJ m h0 hm;rw[h,List.take_succ_eq_append_getElem hk]at e;have e':=List.append_inj' e rfl;refine⟨h0,e'.1.symm,?_⟩;have:=e'.2;simp at this;rw[this,kG _ (by omega)]
theorem nJ (n:Int)(w:World)(h0:0≤n)(h1:n≤18446744073709551615) :
    Calls prog 278 #[.int .u64 n] w (qct n.toNat w):=by
 have hl:=jJ n.toNat;obtain⟨i0,hi,hz0,hz1,hz2⟩:=info_parts Tryz.nI;have hmk:=run_make (P:=prog) w 64 5 i0 (.int .u8 0) underlying64 hi hz0 .i64 .i64 ((zE n.toNat).length:Int) ((zE n.toNat).length:Int) (by omega) (by omega) (by rw[hz2];omega) (by omega);have qlW:(w.alloc (.cells (madeCells #[.int .u8 0] (zE n.toNat).length) 5)).ownsRow w.heap.size 5 1 (.slice (some ⟨w.heap.size,0,none⟩) (zE n.toNat).length (zE n.toNat).length) (zE n.toNat).length (ji (zE n.toNat) (zE n.toNat).length):=by
  have:=World.ownsRow_lit (e:=5) (size:=1) (base:=w.heap.size) w (madeCells #[.int .u8 0] (zE n.toNat).length) (zE n.toNat).length (Nat.le_refl _) (by unfold maxLen;omega) (by simp[size_madeCells]);have e:(madeCells #[.int .u8 0] (zE n.toNat).length).toList=ji (zE n.toNat) (zE n.toNat).length:=by
   apply List.ext_getElem?;intro j;by_cases hj:j<(zE n.toNat).length <;> simp[madeCells,ji,Lib.byteCells,hj,Nat.mod_one]
  rw[← e];exact this
 have hb0:Below w.heap.size w (w.alloc (.cells (madeCells #[.int .u8 0] (zE n.toNat).length) 5)):=(Below.refl _ _).alloc (Nat.le_refl _) _;have hn:((n.toNat:Nat):Int)=n:=by omega
 have Hn:=QH hn;clear hn;rw[hz1]at hmk;clear hi hz0 hz1 hz2;go_enter func278,ntmps278;go_wp2_with (go_at_call 291;refine(tr n _ h0 h1).mono ?_;rintro e w' ⟨rfl,rfl⟩);go_loopw [0,4] (fun n' i wr=>qu5 (zE n.toNat) w n' i wr) (fun _ i _=>(intOf i+1).toNat);case atStart=>exact⟨(zE n.toNat).length,n.toNat,rfl,by rw[Hn.out],by omega,by simp,Nat.le_refl _,qlW,hb0⟩
 case round =>
  obtain⟨k,m,rfl,rfl,hm,hd,hk,hown,hb⟩:=hrel;cases k with
  | zero =>
   have hcv:=run_convert_bytes_back (P:=prog) wr 64 9 5 ⟨w.heap.size,0,none⟩ (zE n.toNat).length (zE n.toNat) underlying64 underlying5 underlying9 (by
    intro j hj;have:=hown.cellAt j (by omega);rw[addr_add,Nat.zero_add,this];simp[ji,Lib.byteCells,List.getElem?_eq_getElem hj])
   have qyv:(convert 64 9 (.slice (some ⟨w.heap.size,0,none⟩) (zE n.toNat).length (zE n.toNat).length)).run prog wr=.ok (.string (str (zE n.toNat))) wr:=hcv;clear hcv;go_wp2;go_ret;exact⟨rfl,hb⟩
  | succ k =>
   have hx:=hown.cellAt k (by omega);rw[show(ji (zE n.toNat) (k+1))[k]?=some (.int .u8 0)from by simp[ji,List.getElem?_append]]at hx;have hf:=hown.frozenAt k;have hs:=hown.stored k (.int .u8 (((zE n.toNat)[k]'(by omega)).toNat:Int));rw[qaC _ _ (by omega)]at hs;obtain⟨hs1,hs2⟩:=hs;obtain⟨hm0,hd',bC⟩:=qlV (zE n.toNat) m k hm (by omega) hd;have Hs1:=QH hs1;have Hs2:=QH hs2;have Hd:=QH hd';have Hl:=QH bC;clear hs1 hs2 hd' bC hd hown;go_wp2;have e:((m:Int)%256)=(((zE n.toNat)[k]'(by omega)).toNat:Int):=by rw[Hl.out];omega
   rw[e];exact⟨⟨k,m/256,rfl,rfl,by omega,Hd.out,by omega,Hs1.out,hb.grown Hs2.out (by have:=hb.size;omega) (fun j hj=>by cases hj;exact Nat.le_refl _)⟩,by simp[intOf]⟩
theorem qlX(n:Nat)(w:World)(h:n<18446744073709551616):Calls prog 277 #[.int .u64 (n:Int)] w (qlU n w):=by
 have:=eC (n:Int) w (by omega) (by omega)
 rwa [Int.toNat_natCast]at this
theorem qeN(n:Nat)(w:World)(h:n<18446744073709551616):Calls prog 278 #[.int .u64 (n:Int)] w (qct n w):=by
 have:=nJ (n:Int) w (by omega) (by omega)
 rwa [Int.toNat_natCast]at this
def eD (w:World)(b o:Nat)(ps:List ByteArray):Prop:=∀i (h:i<ps.length),w.cell? ⟨b,o+i,none⟩=some (.string ps[i])
def qyx (s:ByteArray)(ps:List ByteArray)(w:World)(e:Ending)(w':World):Prop :=
 e=.returned (.string (str (bl s++flat ps)))∧Below w.heap.size w w'
def qeO (s:ByteArray)(ps:List ByteArray)(w:World)(i:Value)(wr:World):Prop :=
 ∃k:Nat,k≤ps.length∧i=.int .i64 (k:Int)∧Lib.IsBuilder 296 5 w.heap.size w.heap.size (Lib.byteCells (bl s++flat (ps.take k))) wr∧Below w.heap.size w wr
theorem kz (s:ByteArray)(b o c:Nat)(ps:List ByteArray)(w:World)(hb:b<w.heap.size)(hc:eD w b o ps)(hl:ps.length≤1000000)(hs:s.size+(flat ps).length≤140737488355328) :
    Calls prog 276 #[.string s,.slice (some ⟨b,o,none⟩) ps.length c] w (qyx s ps w):=by
 have h0:Lib.IsBuilder 296 5 w.heap.size w.heap.size [] (w.alloc (.cells #[.pointer none,.slice none 0 0] 296)):=Lib.fresh_isBuilder 296 5 w;have b0:Below w.heap.size w (w.alloc (.cells #[.pointer none,.slice none 0 0] 296)):=(Below.refl _ w).alloc (Nat.le_refl _) _;go_enter func276,ntmps276;go_wp2_with (go_at_call 235;refine(Tryz.Builder_WriteString w.heap.size w.heap.size [] s _ h0 (by simp;omega) b0.size).mono ?_);rintro e W1 ⟨rfl,h1,b1⟩;have h1':Lib.IsBuilder 296 5 w.heap.size w.heap.size (Lib.byteCells (bl s)) W1:=by
  rw[List.nil_append,Lib.strCells_eq]at h1;exact Or.inr h1
 have b1':=b0.trans b1;clear h1 b1 h0 b0;go_wp2;go_loopw [12] (fun i wr=>qeO s ps w i wr) (fun i _=>ps.length-(intOf i).toNat);case atStart=>exact⟨0,Nat.zero_le _,rfl,by simpa[flat]using h1',b1'⟩
 case round =>
  obtain⟨k,hk,rfl,hI,hB⟩:=hrel;by_cases hlt:k<ps.length
  ·have hcell:wr.cell? ⟨b,o+k,none⟩=some (.string ps[k]):=by
      rw[hB.cell (p:=⟨b,o+k,none⟩) hb];exact hc k hlt
   have gW:=qi5 ps k hlt;have hfm:=sf ps (k+1);have hbl:=zj s;have hbp:=zj ps[k];have hlen:(Lib.byteCells (bl s++flat (ps.take k))).length+ps[k].size≤140737488355328:=by
    rw[Lib.byteCells_length];rw[gW]at hfm;simp at hfm ⊢;omega
   have Hfl:=QH gW;clear gW hfm hbl hbp;go_wp2_with (go_at_call 235;refine(Tryz.Builder_WriteString w.heap.size w.heap.size _ ps[k] _ hI hlen hB.size).mono ?_);rintro e W2 ⟨rfl,h2,b2⟩;have h2':Lib.IsBuilder 296 5 w.heap.size w.heap.size (Lib.byteCells (bl s++flat (ps.take (k+1)))) W2:=by
    rw[Lib.strCells_eq,← Lib.byteCells_append]at h2;rw[Hfl.out,← List.append_assoc];exact Or.inr h2
   have b2':=hB.trans b2;clear h2 b2 hI hB;go_wp2;go_roundw;case rel=>exact⟨k+1,by omega,by go_num,h2',b2'⟩
   case measure=>simp[intOf];omega
  ·have dA:k=ps.length:=by omega
   subst dA;rw[List.take_length]at hI;go_wp2_with (go_at_call 237;refine(Tryz.Builder_String_any w.heap.size w.heap.size _ _ hI hB.size).mono ?_);rintro e W2 ⟨rfl,b2⟩;have b2':=hB.trans b2;clear b2 hI hB;go_wp2;go_ret;exact⟨rfl,b2'⟩
theorem eE (ps:List ByteArray)(w:World):eD (w.alloc (.cells (ps.map Value.string).toArray 9)) w.heap.size 0 ps:=by
 intro i h;simp[World.cell?,World.alloc,-World.alloc_eq]
theorem qaD(a b:ByteArray)(w:World):eD (w.alloc (.cells #[.string a,.string b] 9)) w.heap.size 0 [a,b]:=eE [a,b] w
theorem nK (a b c:ByteArray)(w:World):eD (w.alloc (.cells #[.string a,.string b,.string c] 9)) w.heap.size 0 [a,b,c]:=eE [a,b,c] w
def qcu (s:ByteArray)(n:Nat)(w:World)(e:Ending)(w':World):Prop :=
 e=.returned (.string (str (bl s++zu n)))∧Below w.heap.size w w'
theorem qeP(s:ByteArray)(n:Int)(w:World)(h0:0≤n)(h1:n≤18446744073709551615)(hs:s.size≤140737488355000) :
    Calls prog 250 #[.string s,.int .u64 n] w (qcu s n.toNat w):=by
 have hl:=jJ n.toNat;go_enter func250,ntmps250;go_wp2_with (go_at_call 277;refine(eC n _ h0 h1).mono ?_);rintro e W1 ⟨rfl,b1⟩;go_wp2_with (go_at_call 278;refine(nJ n _ h0 h1).mono ?_);rintro e W2 ⟨rfl,b2⟩;go_wp2_with (go_at_call 276;refine(kz s W2.heap.size 0 2 [str [UInt8.ofNat (zE n.toNat).length],str (zE n.toNat)] _ ?_ (qaD _ _ _) (by simp) ?_).mono ?_)
 ·simp
 ·simp[flat,zw];omega
 ·rintro e W3 ⟨rfl,b3⟩;have b':=qa (zN (qa b1 b2) _) b3;clear b1 b2 b3;go_wp2;go_ret;exact⟨by simp[flat,zw,zu],b'⟩
theorem ke (s:ByteArray)(n:Nat)(w:World)(h:n<18446744073709551616)(hs:s.size≤140737488355000) :
    Calls prog 250 #[.string s,.int .u64 (n:Int)] w (qcu s n w):=by
 have:=qeP s (n:Int) w (by omega) (by omega) hs
 rwa [Int.toNat_natCast]at this
theorem zU {w w1 w2:World}{r:Option Nat}(h:w.grownBy w1 r)(k:w1.grownBy w2 r):w.grownBy w2 r :=
 ⟨k.os.trans h.os,k.tape.trans h.tape,k.output.trans h.output,Nat.le_trans h.size k.size,
  fun i hi hr=>(k.block i (Nat.lt_of_lt_of_le hi h.size) hr).trans (h.block i hi hr)⟩
theorem kg (w:World)(r:Option Nat):w.grownBy w r:=⟨rfl,rfl,rfl,Nat.le_refl _,fun _ _ _=>rfl⟩
theorem qcv(l:List UInt8)(k:Nat)(h:k<l.length):val (l.take (k+1))=val (l.take k)*256+l[k].toNat:=by
 rw[List.take_succ_eq_append_getElem h,nC]
def Row (w:World)(g o:Nat)(l:List UInt8):Prop :=
 ∃cs fr,w.heap[g]?=some (.cells cs 5 fr)∧∀i (h:i<l.length),cs[o+i]?=some (.int .u8 (l[i].toNat:Int))
def qeQ (b g o cap:Nat)(l:List UInt8)(bad:Bool)(w:World):Prop :=
 w.heap[b]?=some (.cells #[.slice (some ⟨g,o,none⟩) l.length cap,.bool bad] 274 (0,0))∧Row w g o l∧l.length≤cap∧l.length≤140737488355328
def zr (b:Nat)(l:List UInt8)(bad:Bool)(w:World):Prop:=∃g o cap,qeQ b g o cap l bad w
theorem uA {w:World}{b:Nat}{o:Obj}(h:w.heap[b]?=some o):b<w.heap.size:=by
 rcases Nat.lt_or_ge b w.heap.size with h' | h'
 ·exact h'
 ·simp[Array.getElem?_eq_none h']at h
theorem Row.cell{w:World}{g o:Nat}{l:List UInt8}(h:Row w g o l)(i:Nat)(hi:i<l.length):w.cell? ⟨g,o+i,none⟩=some (.int .u8 (l[i].toNat:Int)):=by
 obtain⟨cs,fr,hg,hc⟩:=h;simp[World.cell?,hg,hc i hi]
theorem Row.keep{w w':World}{g o:Nat}{l:List UInt8}(h:Row w g o l)(hk:w'.heap[g]?=w.heap[g]?):Row w' g o l:=by
 obtain⟨cs,fr,hg,hc⟩:=h;exact⟨cs,fr,hk.trans hg,hc⟩
theorem Row.drop{w:World}{g o:Nat}{l:List UInt8}(h:Row w g o l)(n:Nat):Row w g (o+n) (l.drop n):=by
 obtain⟨cs,fr,hg,hc⟩:=h;refine⟨cs,fr,hg,fun i hi=>?_⟩;have:=hc (n+i) (by simp at hi;omega);rw[Nat.add_assoc,this];simp
theorem Row.take{w:World}{g o:Nat}{l:List UInt8}(h:Row w g o l)(n:Nat):Row w g o (l.take n):=by
 obtain⟨cs,fr,hg,hc⟩:=h;refine⟨cs,fr,hg,fun i hi=>?_⟩;have:=hc i (by simp at hi;omega);rw[this];simp
theorem Row.nil0{w:World}{g o:Nat}{l:List UInt8}(h:Row w g o l)(o':Nat):Row w g o' []:=by
 obtain⟨cs,fr,hg,_⟩:=h;exact⟨cs,fr,hg,fun i hi=>by simp at hi⟩
theorem zr.keep{b c:Nat}{l m:List UInt8}{x y:Bool}{w w':World}(h:zr b l x w)(k:zr c m y w)(hne:b≠c)(hg:w.grownBy w' (some c)):zr b l x w':=by
 obtain⟨g,o,cap,hb,hr,h1,h2⟩:=h;obtain⟨_,_,_,hc,_⟩:=k;have hgc:g≠c:=by
  intro e;subst e;obtain⟨cs,fr,hg',_⟩:=hr;rw[hc]at hg';simp at hg'
 have jG:g<w.heap.size:=by obtain⟨cs,fr,hg',_⟩:=hr;exact uA hg'
 exact⟨g,o,cap,(hg.block b (uA hb) (by simpa using hne)).trans hb,hr.keep (hg.block g jG (by simpa using hgc)),h1,h2⟩
theorem zr.below{b:Nat}{l:List UInt8}{x:Bool}{w w':World}(h:zr b l x w)(hg:Below w.heap.size w w'):zr b l x w':=by
 obtain⟨g,o,cap,hb,hr,h1,h2⟩:=h;have jG:g<w.heap.size:=by obtain⟨cs,fr,hg',_⟩:=hr;exact uA hg'
 exact⟨g,o,cap,(hg.block b (uA hb)).trans hb,hr.keep (hg.block g jG),h1,h2⟩
theorem zr.lt{b:Nat}{l:List UInt8}{x:Bool}{w:World}(h:zr b l x w):b<w.heap.size:=by
 obtain⟨_,_,_,hb,_⟩:=h;exact uA hb
def qyy (s:ByteArray)(w:World)(e:Ending)(w':World):Prop :=
 ∃b,e=.returned (.pointer (some ⟨b,0,none⟩))∧w.heap.size≤b∧zr b (bl s) false w'∧Below w.heap.size w w'
theorem qaE(s:ByteArray)(w:World)(hs:s.size≤140737488355328) :
    Calls prog 125 #[.string s] w (qyy s w):=by
 have hcv:=Lib.run_convert_string_bytes (P:=prog) w 9 64 5 s underlying9 underlying64 underlying5;have hsz:=Lib.bytesWorld_size w 5 s;have hnew:=Lib.bytesWorld_at_new w 5 s;have hold:=Lib.bytesWorld_at_old w 5 s;have qaF:=grownCap_ge w s.size 0 5;have hcell:∀i (h:i<(bl s).length),(Lib.bytesCells w 5 s)[0+i]?=some (.int .u8 ((bl s)[i].toNat:Int)):=by
  intro i hi;have hi':i<s.size:=by rw[← zj];exact hi
  have:=Lib.bytesWorld_cell w 5 s i hi';simp[World.cell?,hnew]at this;rw[Nat.zero_add,this];simp[bl,hi']
 have hos:(Lib.bytesWorld w 5 s).os=w.os∧(Lib.bytesWorld w 5 s).tape=w.tape∧(Lib.bytesWorld w 5 s).output=w.output:=⟨rfl,rfl,rfl⟩;have bj:Below w.heap.size w (Lib.bytesWorld w 5 s):=⟨hos.1,hos.2.1,hos.2.2,by omega,fun k hk=>hold k hk⟩;have hlen:=zj s;generalize Lib.bytesWorld w 5 s=W1 at *;generalize grownCap w s.size 0 5=cap at *;have Hsz:=QH hsz;have q3K:=QH hnew;have qyz:=QH hcell;have q3L:=QH hlen;clear hsz hnew hcell hold hos hlen;go_enter func125,ntmps125;go_wp2;go_ret;have Hl:=q3L.out;have hW:(W1.alloc (.cells #[.slice (some ⟨w.heap.size,0,none⟩) s.size cap,.bool false] 274)).heap[W1.heap.size]?=some (.cells #[.slice (some ⟨w.heap.size,0,none⟩) s.size cap,.bool false] 274 (0,0)):=by
  show(W1.heap.push _)[W1.heap.size]?=_;simp
 have hO:=Below.heap_alloc W1 (.cells #[.slice (some ⟨w.heap.size,0,none⟩) s.size cap,.bool false] 274) w.heap.size (by have:=Hsz.out;omega);refine⟨W1.heap.size,rfl,by have:=Hsz.out;omega,⟨w.heap.size,0,cap,by rw[Hl];exact hW,⟨_,_,hO.trans q3K.out,qyz.out⟩,by omega,by omega⟩,zN bj _⟩
theorem qeR(b:Nat)(l:List UInt8)(w:World)(h:zr b l false w) :
    Calls prog 280 #[.pointer (some ⟨b,0,none⟩)] w fun e w'=>e=.returned (.bool true)∧w=w':=by
 obtain⟨g,o,cap,hb,_⟩:=h;have h1:w.cell? ⟨b,1,none⟩=some (.bool false):=by simp[World.cell?,hb]
 clear hb;go_enter func280,ntmps280;go_wp2;go_ret;exact⟨rfl,rfl⟩
theorem qlZ(b:Nat)(l:List UInt8)(w:World)(h:zr b l true w) :
    Calls prog 280 #[.pointer (some ⟨b,0,none⟩)] w fun e w'=>e=.returned (.bool false)∧w=w':=by
 obtain⟨g,o,cap,hb,_⟩:=h;have h1:w.cell? ⟨b,1,none⟩=some (.bool true):=by simp[World.cell?,hb]
 clear hb;go_enter func280,ntmps280;go_wp2;go_ret;exact⟨rfl,rfl⟩
def tailOff(o len n:Nat):Nat:=if len=n then o else o+n
def qu7 (b g o:Nat)(l:List UInt8)(n:Nat)(x:Bool)(w:World)(e:Ending)(w':World):Prop :=
 e=.returned (.tuple #[.slice (some ⟨g,o,none⟩) n n,.bool true])∧qeQ b g (tailOff o l.length n) (l.length-n) (l.drop n) x w'∧w.grownBy w' (some b)∧Row w' g o (l.take n)
theorem qeS(g o len cap:Nat)(n:Int)(h0:0≤n)(hn:n.toNat≤cap)(w:World) :
    (Instr.slice 64 (.slice (some ⟨g,o,none⟩) len cap) none (some (.int .u64 n)) (some (.int .u64 n))).run prog w=.ok (.slice (some ⟨g,o,none⟩) n.toNat n.toNat) w:=by
 have h1:n≤(cap:Int):=by omega
 rw[run_slice_any (P:=prog) w 64 (some ⟨g,o,none⟩) len cap underlying64];simp[Instr.sliceBounds,run_sliceBound,h0,h1,go_sem];intro h;omega
theorem qeT(g o len cap:Nat)(n:Int)(h0:0≤n)(hn:n.toNat≤len)(hc:len≤cap)(w:World) :
    (Instr.slice 64 (.slice (some ⟨g,o,none⟩) len cap) (some (.int .u64 n)) (some (.int .i64 (len:Int))) (some (.int .i64 (len:Int)))).run prog w=.ok (.slice (some ⟨g,tailOff o len n.toNat,none⟩) (len-n.toNat) (len-n.toNat)) w:=by
 have h1:n≤(len:Int):=by omega
 have h2:(len:Int)≤(cap:Int):=by omega
 rw[run_slice_any (P:=prog) w 64 (some ⟨g,o,none⟩) len cap underlying64];unfold tailOff;by_cases hl:len=n.toNat
 ·simp[Instr.sliceBounds,run_sliceBound,h0,h1,hc,go_sem];rw[if_pos hl,if_pos hl]
 ·simp[Instr.sliceBounds,run_sliceBound,h0,h1,hc,hl,go_sem]
theorem qma{w:World}{g o:Nat}{l:List UInt8}(h:Row w g o l)(n:Nat):Row w g (tailOff o l.length n) (l.drop n):=by
 unfold tailOff;split
 ·have e:l.drop n=[]:=by simp;omega
  rw[e];exact h.nil0 o
 ·exact h.drop n
theorem uB (b g o cap:Nat)(l:List UInt8)(x:Bool)(n:Int)(w:World)(hR:qeQ b g o cap l x w)(h0:0≤n)(hn:n.toNat≤l.length) :
    Calls prog 281 #[.pointer (some ⟨b,0,none⟩),.int .u64 n] w (qu7 b g o l n.toNat x w):=by
 obtain⟨hb,hr,hc,hl⟩:=hR;have h1:w.cell? ⟨b,0,none⟩=some (.slice (some ⟨g,o,none⟩) l.length cap):=by simp[World.cell?,hb]
 have h2:w.frozen? ⟨b,0,none⟩=false:=by simp[World.frozen?,hb]
 have hs1:=qeS g o l.length cap n h0 (by omega) w;have hs2:=qeT g o l.length cap n h0 hn hc w;have ht:¬ ((l.length:Int)<n):=by omega
 have hw:=heap_setCell_same w b 0 _ 274 (.slice (some ⟨g,tailOff o l.length n.toNat,none⟩) (l.length-n.toNat) (l.length-n.toNat)) hb;have hgr:w.grownBy (w.setCell ⟨b,0,none⟩ (.slice (some ⟨g,tailOff o l.length n.toNat,none⟩) (l.length-n.toNat) (l.length-n.toNat))) (some b) :=
  ⟨rfl,rfl,rfl,by simp[World.setCell],fun k _ hk=>Below.heap_setCell _ _ _ _ (fun e=>hk (by simp[e]))⟩
 have hgb:g≠b:=by
  intro e;subst e;obtain⟨cs,fr,hg',_⟩:=hr;rw[hb]at hg';simp at hg'
 have hgk:=Below.heap_setCell w ⟨b,0,none⟩ (.slice (some ⟨g,tailOff o l.length n.toNat,none⟩) (l.length-n.toNat) (l.length-n.toNat)) g hgb;have hr1:=(qma hr n.toNat).keep hgk;have hr2:=(hr.take n.toNat).keep hgk;have qmb:qeQ b g (tailOff o l.length n.toNat) (l.length-n.toNat) (l.drop n.toNat) x (w.setCell ⟨b,0,none⟩ (.slice (some ⟨g,tailOff o l.length n.toNat,none⟩) (l.length-n.toNat) (l.length-n.toNat))):=by
  refine⟨?_,hr1,by simp,by simp;omega⟩;rw[hw];simp
 have Hf:=QH qmb;have Hg:=QH hgr;have Hr2:=QH hr2;clear qmb hgr hr1 hr2 hgk hw hb;go_enter func281,ntmps281;go_wp2;go_ret2;exact⟨rfl,Hf.out,Hg.out,Hr2.out⟩
def qmc (w:World)(e:Ending)(w':World):Prop:=e=.returned (.tuple #[.slice none 0 0,.bool false])∧w=w'
theorem qaG(b g o cap:Nat)(l:List UInt8)(x:Bool)(n:Int)(w:World)(hR:qeQ b g o cap l x w)(hn:(l.length:Int)<n) :
    Calls prog 281 #[.pointer (some ⟨b,0,none⟩),.int .u64 n] w (qmc w):=by
 obtain⟨hb,_,_,hl⟩:=hR;have h1:w.cell? ⟨b,0,none⟩=some (.slice (some ⟨g,o,none⟩) l.length cap):=by simp[World.cell?,hb]
 clear hb;go_enter func281,ntmps281;go_wp2;go_ret2;exact⟨rfl,rfl⟩
def tu (b:Nat)(l:List UInt8)(x:Bool)(w:World)(e:Ending)(w':World):Prop :=
 w.grownBy w' (some b) ∧
  ((∃n r,rdNum l=some (n,r)∧e=.returned (.tuple #[.int .u64 (n:Int),.bool true])∧zr b r x w') ∨
   (rdNum l=none∧e=.returned (.tuple #[.int .u64 0,.bool false])∧∃m,zr b m x w'))
theorem qi7(b:Nat)(x:Bool)(w:World)(h:zr b [] x w) :
    Calls prog 254 #[.func (.func 281) #[.pointer (some ⟨b,0,none⟩)] #[]] w (tu b [] x w):=by
 obtain⟨g,o,cap,hR⟩:=h;have hR':zr b [] x w:=⟨g,o,cap,hR⟩;go_enter func254,ntmps254;go_wp2_with (go_at_call 281;refine(qaG b g o cap [] x 1 _ hR (by simp)).mono ?_;rintro e w' ⟨rfl,rfl⟩);go_ret2;exact⟨kg _ _,.inr ⟨rfl,rfl,[],hR'⟩⟩
theorem Row.cell0{w:World}{g o:Nat}{k:UInt8}{r:List UInt8}(h:Row w g o (k::r)):w.cell? ⟨g,o,none⟩=some (.int .u8 (k.toNat:Int)):=by
 have:=h.cell 0 (by simp);simpa using this
theorem qq4(b:Nat)(k:UInt8)(r:List UInt8)(x:Bool)(w:World)(h:zr b (k::r) x w)(hk:8<k.toNat) :
    Calls prog 254 #[.func (.func 281) #[.pointer (some ⟨b,0,none⟩)] #[]] w (tu b (k::r) x w):=by
 obtain⟨g,o,cap,hR⟩:=h;have yt:(8:Int)<(k.toNat:Int):=by omega
 have hnone:rdNum (k::r)=none:=by simp[rdNum,hk]
 have Hn:=QH hnone;clear hnone;go_enter func254,ntmps254;go_wp2_with (go_at_call 281;refine(uB b g o cap (k::r) x 1 _ hR (by decide) (by simp)).mono ?_);rintro e w1 ⟨rfl,h1,h2,h3⟩;have hc:w1.cell? ⟨g,o,none⟩=some (.int .u8 (k.toNat:Int)):=Row.cell0 (r:=[]) h3;have H1:=QH h1;have H2:=QH h2;clear h1 h2 h3;go_wp2;go_ret2;exact⟨H2.out,.inr ⟨Hn.out,rfl,r,⟨_,_,_,H1.out⟩⟩⟩
theorem qi8(b:Nat)(k:UInt8)(r:List UInt8)(x:Bool)(w:World)(h:zr b (k::r) x w)(hk:k.toNat≤8)(hr:r.length<k.toNat) :
    Calls prog 254 #[.func (.func 281) #[.pointer (some ⟨b,0,none⟩)] #[]] w (tu b (k::r) x w):=by
 obtain⟨g,o,cap,hR⟩:=h;have yt:¬ (8:Int)<(k.toNat:Int):=by omega
 have hnone:rdNum (k::r)=none:=by simp[rdNum,Nat.not_lt.2 hk,hr]
 have Hn:=QH hnone;clear hnone;go_enter func254,ntmps254;go_wp2_with (go_at_call 281;refine(uB b g o cap (k::r) x 1 _ hR (by decide) (by simp)).mono ?_);rintro e w1 ⟨rfl,h1,h2,h3⟩;have hc:w1.cell? ⟨g,o,none⟩=some (.int .u8 (k.toNat:Int)):=Row.cell0 (r:=[]) h3;have H1:=QH h1;have H2:=QH h2;clear h1 h2 h3;go_wp2_with (go_at_call 281;refine(qaG b g _ _ r x _ _ H1.out (by omega)).mono ?_;rintro e w' ⟨rfl,rfl⟩);go_ret2;exact⟨H2.out,.inr ⟨Hn.out,rfl,r,⟨_,_,_,H1.out⟩⟩⟩
theorem qmd(b:Nat)(k:UInt8)(r:List UInt8)(x:Bool)(w:World)(h:zr b (k::r) x w)(hk:k.toNat≤8)(hr:k.toNat≤r.length)(h0:(r.take k.toNat).head? = some 0) :
    Calls prog 254 #[.func (.func 281) #[.pointer (some ⟨b,0,none⟩)] #[]] w (tu b (k::r) x w):=by
 obtain⟨g,o,cap,hR⟩:=h;have yt:¬ (8:Int)<(k.toNat:Int):=by omega
 have hnone:rdNum (k::r)=none:=by simp[rdNum,Nat.not_lt.2 hk,Nat.not_lt.2 hr];exact h0
 have Hn:=QH hnone;have hkp:(0:Int)<(k.toNat:Int):=by
  have:k.toNat≠0:=by
   intro e;rw[e]at h0;simp at h0
  omega
 have H0:=QH h0;clear hnone h0;go_enter func254,ntmps254;go_wp2_with (go_at_call 281;refine(uB b g o cap (k::r) x 1 _ hR (by decide) (by simp)).mono ?_);rintro e w1 ⟨rfl,h1,h2,h3⟩;have hc:w1.cell? ⟨g,o,none⟩=some (.int .u8 (k.toNat:Int)):=Row.cell0 (r:=[]) h3;obtain⟨o1,c1,h1⟩:∃o1 c1,qeQ b g o1 c1 r x w1:=⟨_,_,h1⟩;have H1:=QH h1;have H2:=QH h2;clear h1 h2 h3;go_wp2_with (go_at_call 281;refine(uB b g o1 c1 r x (k.toNat:Int) _ H1.out (by omega) (by omega)).mono ?_);rintro e w2 ⟨rfl,h1,h2,h3⟩;rw[Int.toNat_natCast]at h1 h3;have hc0:w2.cell? ⟨g,o1,none⟩=some (.int .u8 0):=by
  have e0:=H0.out;cases hd:r.take k.toNat with
  | nil=>rw[hd]at e0;simp at e0
  | cons y q =>
   rw[hd]at e0 h3;simp at e0;subst e0;exact Row.cell0 h3
 have H3:=QH h1;have H4:=QH h2;clear h1 h2 h3 hc;go_wp2;go_ret2;exact⟨zU H2.out H4.out,.inr ⟨Hn.out,rfl,_,⟨_,_,_,H3.out⟩⟩⟩
theorem qq5(v z:Nat)(hv:v<72057594037927936)(hz:z<256):bits BinOp.or IntKind.u64 ((v:Int)*256) (z:Int)=((v*256+z:Nat):Int):=by
 have e:(v:Int)*256=((v*256:Nat):Int):=by omega
 rw[e,u64_or_nat _ _ (by omega) (by omega)];have:=Nat.shiftLeft_add_eq_or_of_lt (i:=8) (b:=z) (by omega) v;rw[Nat.shiftLeft_eq,show(2:Nat) ^ 8=256 from rfl]at this;rw[← this]
def qme (d:List UInt8)(n i:Value):Prop:=∃j:Nat,j≤d.length∧i=.int .i64 (j:Int)∧n=.int .u64 (val (d.take j):Int)
theorem qmf(b:Nat)(k:UInt8)(r:List UInt8)(x:Bool)(w:World)(h:zr b (k::r) x w)(hk:k.toNat≤8)(hr:k.toNat≤r.length)(h0:¬ (r.take k.toNat).head? = some 0) :
    Calls prog 254 #[.func (.func 281) #[.pointer (some ⟨b,0,none⟩)] #[]] w (tu b (k::r) x w):=by
 obtain⟨g,o,cap,hR⟩:=h;have yt:¬ (8:Int)<(k.toNat:Int):=by omega
 have hsome:rdNum (k::r)=some (val (r.take k.toNat),r.drop k.toNat):=by simp[rdNum,Nat.not_lt.2 hk,Nat.not_lt.2 hr,h0]
 have Hn:=QH hsome;have H0:=QH h0;clear hsome h0;go_enter func254,ntmps254;go_wp2_with (go_at_call 281;refine(uB b g o cap (k::r) x 1 _ hR (by decide) (by simp)).mono ?_);rintro e w1 ⟨rfl,h1,h2,h3⟩;have hc:w1.cell? ⟨g,o,none⟩=some (.int .u8 (k.toNat:Int)):=Row.cell0 (r:=[]) h3;obtain⟨o1,c1,h1⟩:∃o1 c1,qeQ b g o1 c1 r x w1:=⟨_,_,h1⟩;have H1:=QH h1;have H2:=QH h2;clear h1 h2 h3;go_wp2_with (go_at_call 281;refine(uB b g o1 c1 r x (k.toNat:Int) _ H1.out (by omega) (by omega)).mono ?_);rintro e w2 ⟨rfl,h1,h2,h3⟩;rw[Int.toNat_natCast]at h1 h3;have H3:=QH h1;have H4:=QH h2;have hlen:(r.take k.toNat).length=k.toNat:=by simp;omega
 obtain⟨d,hd⟩:∃d,d=r.take k.toNat:=⟨_,rfl⟩;have hE:Hid (rdNum (k::r)=some (val d,r.drop k.toNat)):=by rw[hd];exact Hn
 have hZ:Hid (¬ d.head? = some 0):=by rw[hd];exact H0
 rw[← hd]at hlen h3;clear hd Hn H0 h1 h2 hc hR;have hkb:k.toNat≤8:=hk;cases d with
 | nil =>
  have hk0:¬ (0:Int)<(k.toNat:Int):=by simp at hlen;omega
  have Hl:=QH hlen;have H5:=QH h3;clear hlen h3 hZ;go_wp2;go_loop [7,47] (fun n i=>qme [] n i) (fun _ i=>k.toNat-(intOf i).toNat);case atStart=>exact⟨0,Nat.zero_le _,rfl,rfl⟩
  case round =>
   obtain⟨j,hj,rfl,rfl⟩:=hrel;have hlt:¬ j<k.toNat:=by omega
   go_wp2;go_ret2;exact⟨zU H2.out H4.out,.inl ⟨val [],_,hE.out,by simp,_,_,_,H3.out⟩⟩
 | cons y q =>
  have hk0:(0:Int)<(k.toNat:Int):=by simp at hlen;omega
  have hc:=Row.cell0 h3;have hy:((y.toNat:Int) == 0)=false:=by
   have hz:=hZ.out;simp at hz;have:y.toNat≠0:=fun e=>hz (by apply UInt8.toNat_inj.1;simpa using e);simp;omega
  have Hl:=QH hlen;have H5:=QH h3;clear hlen h3 hZ;go_wp2;go_loop [7,47] (fun n i=>qme (y::q) n i) (fun _ i=>k.toNat-(intOf i).toNat);case atStart=>exact⟨0,Nat.zero_le _,rfl,rfl⟩
  case round =>
   obtain⟨j,hj,rfl,rfl⟩:=hrel;by_cases hlt:j<k.toNat
   ·have hl:=Hl.out;have hc:=H5.out.cell j (by omega);have hb:val ((y::q).take j)<72057594037927936:=by
     have a:=qeL ((y::q).take j);have b:256 ^ ((y::q).take j).length≤256 ^ 7:=Nat.pow_le_pow_right (by omega) (by rw[List.length_take];omega);have e:(256:Nat) ^ 7=72057594037927936:=by decide
     omega
    have hs:=qcv (y::q) j (by omega);have Hs:=QH hs;generalize val ((y::q).take j)=v at *;generalize (y::q)[j]=z at *;have hzb:z.toNat<256:=z.toNat_lt;clear hs;go_wp2;rw[qq5 v z.toNat hb hzb];exact⟨⟨j+1,by omega,by go_num,by rw[Hs.out]⟩,by simp[intOf];omega⟩
   ·have hl:=Hl.out;have hjl:j=(y::q).length:=by omega
    have ht:val ((y::q).take j)=val (y::q):=by rw[hjl,List.take_length]
    have Ht:=QH ht;clear ht hjl hl;go_wp2;go_ret2;exact⟨zU H2.out H4.out,.inl ⟨val (y::q),_,hE.out,by rw[← Ht.out];rfl,_,_,_,H3.out⟩⟩
theorem eF (b:Nat)(l:List UInt8)(x:Bool)(w:World)(h:zr b l x w) :
    Calls prog 254 #[.func (.func 281) #[.pointer (some ⟨b,0,none⟩)] #[]] w (tu b l x w):=by
 cases l with
 | nil=>exact qi7 b x w h
 | cons k r =>
  by_cases hk:k.toNat≤8
  ·by_cases hr:k.toNat≤r.length
   ·by_cases h0:(r.take k.toNat).head? = some 0
    ·exact qmd b k r x w h hk hr h0
    ·exact qmf b k r x w h hk hr h0
   ·exact qi8 b k r x w h hk (by omega)
  ·exact qq4 b k r x w h (by omega)
theorem zr.flag{b:Nat}{l:List UInt8}{x:Bool}{w:World}(h:zr b l x w)(y:Bool):zr b l y (w.setCell ⟨b,1,none⟩ (.bool y)):=by
 obtain⟨g,o,cap,hb,hr,h1,h2⟩:=h;have hgb:g≠b:=by
  intro e;subst e;obtain⟨cs,fr,hg',_⟩:=hr;rw[hb]at hg';simp at hg'
 have hw:=heap_setCell_same w b 1 _ 274 (.bool y) hb;exact⟨g,o,cap,by rw[hw];simp,hr.keep (Below.heap_setCell w _ _ g hgb),h1,h2⟩
theorem zr.aG(b:Nat)(w:World)(v:Value):w.grownBy (w.setCell ⟨b,1,none⟩ v) (some b) :=
 ⟨rfl,rfl,rfl,by simp[World.setCell],fun k _ hk=>Below.heap_setCell _ _ _ _ (fun e=>hk (by simp[e]))⟩
theorem zr.cell1{b:Nat}{l:List UInt8}{x:Bool}{w:World}(h:zr b l x w):w.cell? ⟨b,1,none⟩=some (.bool x)∧w.frozen? ⟨b,1,none⟩=false:=by
 obtain⟨g,o,cap,hb,_⟩:=h;exact⟨by simp[World.cell?,hb],by simp[World.frozen?,hb]⟩
def mX (b:Nat)(l:List UInt8)(w:World)(e:Ending)(w':World):Prop :=
 w.grownBy w' (some b) ∧
  ((∃n r,rdNum l=some (n,r)∧e=.returned (.int .u64 (n:Int))∧zr b r false w') ∨
   (rdNum l=none∧e=.returned (.int .u64 0)∧∃m,zr b m true w'))
theorem qcy(b:Nat)(l:List UInt8)(w:World)(h:zr b l false w) :
    Calls prog 253 #[.pointer (some ⟨b,0,none⟩),.func (.func 254) #[] #[]] w (mX b l w):=by
 go_enter func253,ntmps253;go_wp2_with (go_at_call 280;refine(qeR b l _ h).mono ?_;rintro e w' ⟨rfl,rfl⟩);go_wp2_with (go_at_call 254;refine(eF b l false _ h).mono ?_);rintro e w1 ⟨hg,⟨n,r,hn,rfl,hr⟩|⟨hn,rfl,m,hm⟩⟩
 ·have Hn:=QH hn;have Hg:=QH hg;obtain⟨hc,hf⟩:=hr.cell1;have Hr:=QH (hr.flag false);clear hn hg hr;go_wp2;go_ret;exact⟨zU Hg.out (zr.aG _ _ _),.inl ⟨n,r,Hn.out,rfl,Hr.out⟩⟩
 ·have Hn:=QH hn;have Hg:=QH hg;obtain⟨hc,hf⟩:=hm.cell1;have Hr:=QH (hm.flag true);clear hn hg hm;go_wp2;go_ret;exact⟨zU Hg.out (zr.aG _ _ _),.inr ⟨Hn.out,rfl,m,Hr.out⟩⟩
theorem qcz(b:Nat)(l:List UInt8)(w:World)(h:zr b l true w) :
    Calls prog 253 #[.pointer (some ⟨b,0,none⟩),.func (.func 254) #[] #[]] w fun e w'=>e=.returned (.int .u64 0)∧w=w':=by
 go_enter func253,ntmps253;go_wp2_with (go_at_call 280;refine(qlZ b l _ h).mono ?_;rintro e w' ⟨rfl,rfl⟩);go_ret;exact⟨rfl,rfl⟩
theorem vZ (b:Nat)(l:List UInt8)(w:World)(h:zr b l false w):Calls prog 191 #[.pointer (some ⟨b,0,none⟩)] w (mX b l w):=by
 go_enter func191,ntmps191;go_wp2_with (go_at_call 253;refine(qcy b l _ h).mono ?_);rintro e w1 ⟨hg,⟨n,r,hn,rfl,hr⟩|⟨hn,rfl,hm⟩⟩
 ·have H:Hid (mX b l w (.returned (.int .u64 (n:Int))) w1):=⟨hg,.inl ⟨n,r,hn,rfl,hr⟩⟩;clear hg hn hr;go_wp2;go_ret;exact H.out
 ·have H:Hid (mX b l w (.returned (.int .u64 0)) w1):=⟨hg,.inr ⟨hn,rfl,hm⟩⟩;clear hg hn hm;go_wp2;go_ret;exact H.out
theorem nL (b:Nat)(l:List UInt8)(w:World)(h:zr b l true w):Calls prog 191 #[.pointer (some ⟨b,0,none⟩)] w fun e w'=>e=.returned (.int .u64 0)∧w=w':=by
 go_enter func191,ntmps191;go_wp2_with (go_at_call 253;refine(qcz b l _ h).mono ?_;rintro e w' ⟨rfl,rfl⟩);go_ret;exact⟨rfl,rfl⟩
end Go.Proofs.YtdpbdkacngaemaaGreatDoor.wi
namespace Go.Proofs.YtdpbdkacngaemaaGreatDoor.ib
open _root_.Go.Proofs.Tryz Go Go.RowKit Go.ChangeShapes Go.WideShapes Go.Deep
def qD (x:Int):Prop:=-9223372036854775808≤x∧x≤9223372036854775807
def qI (w:World)(a:Option Addr)(zs:List Int):Prop :=
 ∀i (h:i<zs.length),∃b o,a=some ⟨b,o,none⟩∧b<w.heap.size∧w.cell? ⟨b,o+i,none⟩=some (.int .i64 zs[i])∧qD zs[i]
theorem qI.below{w w':World}{a:Option Addr}{zs:List Int}(h:qI w a zs)(hb:Below w.heap.size w w'):qI w' a zs:=by
 intro i hi;obtain⟨b,o,h1,h2,h3,h4⟩:=h i hi;exact⟨b,o,h1,Nat.lt_of_lt_of_le h2 hb.size,by rw[hb.cell (p:=⟨b,o+i,none⟩) h2];exact h3,h4⟩
theorem qI.nil(w:World)(a:Option Addr):qI w a []:=fun i h=>absurd h (by simp)
theorem qI.mem{w:World}{a:Option Addr}{zs:List Int}(h:qI w a zs):∀z∈zs,qD z:=by
 intro z hz;obtain⟨i,hi,rfl⟩:=List.getElem_of_mem hz;obtain⟨_,_,_,_,_,h4⟩:=h i hi;exact h4
theorem qI.take{w:World}{a:Option Addr}{zs:List Int}(h:qI w a zs)(n:Nat):qI w a (zs.take n):=fun i hi=>by
 have:=h i (by simp at hi;omega);simpa using this
def zg (w:World)(B:Nat)(v:Value)(zs:List Int):Prop:=w.ownsRow B 3 1 v zs.length (zs.map (Value.int .i64))
theorem wN:(prog.info? 3).map (fun i=>(i.zero,i.size,i.bytes))=some (some (.int .i64 0),1,8):=by kernel_rfl
theorem zg.view{w:World}{B:Nat}{v:Value}{zs:List Int}(h:zg w B v zs)(hz:∀z∈zs,qD z):∃a c,v=.slice a zs.length c∧qI w a zs∧∀b o,a=some ⟨b,o,none⟩→B≤b∧b<w.heap.size:=by
 rcases h.2 with⟨rfl,h0⟩|⟨g,cap,cur,rfl,hg,hh,hcc,hm,hcs,xC⟩
 ·obtain rfl:zs=[]:=List.length_eq_zero_iff.1 h0;exact⟨none,0,rfl,(fun i h=>by simp at h),fun b o h=>by cases h⟩
 ·refine⟨some ⟨g,0,none⟩,cap,rfl,fun i hi=>⟨g,0,rfl,(Array.getElem?_eq_some_iff.1 hh).1,?_,hz _ (List.getElem_mem hi)⟩,fun b o h=>?_⟩
  ·rw[Nat.zero_add,cell_of_row w g i cur 3 (0,0) hh];have h3:(cur.toList.take (zs.length*1))[i]?=some (.int .i64 zs[i]):=by rw[xC];simp[hi]
   rw[List.getElem?_take]at h3;split at h3
   ·simpa using h3
   ·cases h3
  ·simp only[Option.some.injEq,Addr.mk.injEq,and_true]at h;obtain⟨rfl,_⟩:=h;exact⟨hg,(Array.getElem?_eq_some_iff.1 hh).1⟩
theorem xD {α:Type}{p:Nat→α→Prop}:∀(n:Nat),(∀i,i<n→∃x,p i x)→∃l:List α,l.length=n∧∀i (h:i<l.length),p i l[i]
 | 0,_=>⟨[],rfl,fun i h=>absurd h (by simp)⟩
 | n+1,h=>by
  obtain⟨l,hl,hp⟩:=xD n (fun i hi=>h i (by omega));obtain⟨x,hx⟩:=h n (by omega);refine⟨l++[x],by simp[hl],fun i hi=>?_⟩;by_cases hin:i<l.length
  ·rw[List.getElem_append_left hin];exact hp i hin
  ·have:i=l.length:=by simp at hi;omega
   subst this;rw[List.getElem_append_right (Nat.le_refl _)];simpa[hl]using hx
section
variable {H:Type} {enc:TypeId × Value→H} {w:World} {held:Bool} {a:Option Addr} {l c:Nat} {d:DataW H} {pl:List MemPlace}
end
end Go.Proofs.YtdpbdkacngaemaaGreatDoor.ib
namespace Go.Proofs.YtdpbdkacngaemaaGreatDoor.ib
open _root_.Go.Proofs.Tryz Go Go.RowKit
def qf (w:World)(g:Nat)(t:TypeId)(cs:Array Value):Prop:=w.heap[g]?=some (.cells cs t (0,0))
section
variable {w w':World} {g:Nat} {t:TypeId} {cs:Array Value}
theorem qf.lt(h:qf w g t cs):g<w.heap.size:=by
 unfold qf at h;exact(Array.getElem?_eq_some_iff.1 h).1
theorem qf.cell(h:qf w g t cs)(i:Nat):w.cell? ⟨g,i,none⟩=cs[i]? :=cell_of_row w g i cs t (0,0) h
theorem qf.frozen(h:qf w g t cs)(i:Nat):w.frozen? ⟨g,i,none⟩=false:=by
 unfold qf at h;simp[World.frozen?,h]
theorem qf.new(w:World)(t:TypeId)(cs:Array Value):qf (w.alloc (.cells cs t)) w.heap.size t cs:=heap_alloc_new w _
theorem qf.of_block(h:qf w g t cs)(hb:w'.heap[g]?=w.heap[g]?):qf w' g t cs:=hb.trans h
theorem qf.below(h:qf w g t cs)(hb:Below w.heap.size w w'):qf w' g t cs:=h.of_block (hb.block _ h.lt)
theorem qf.qg(h:qf w g t cs)(i:Nat)(u:Value):qf (w.setCell ⟨g,i,none⟩ u) g t (cs.setIfInBounds i u):=heap_setCell_same w g i cs t u h
end
structure qz(S:Nat→Prop)(w w':World):Prop where
 os:w'.os=w.os
 tape:w'.tape=w.tape
 output:w'.output=w.output
 size:w.heap.size≤w'.heap.size
 block:∀k,k<w.heap.size→¬ S k→w'.heap[k]?=w.heap[k]?
section
variable {S S':Nat→Prop} {a b c w w':World}
theorem qz.refl(S:Nat→Prop)(w:World):qz S w w:=⟨rfl,rfl,rfl,Nat.le_refl _,fun _ _ _=>rfl⟩
theorem qz.trans(h:qz S a b)(k:qz S' b c)(hs:∀i,S' i→S i∨a.heap.size≤i):qz S a c :=
 ⟨k.os.trans h.os,k.tape.trans h.tape,k.output.trans h.output,Nat.le_trans h.size k.size,fun i hi hn=>by
  refine(k.block i (Nat.lt_of_lt_of_le hi h.size) (fun e=>?_)).trans (h.block i hi hn);rcases hs i e with h1|h1
  ·exact hn h1
  ·omega⟩
theorem qz.mono(h:qz S w w')(hs:∀i,S i→S' i):qz S' w w':=⟨h.os,h.tape,h.output,h.size,fun k hk hn=>h.block k hk (fun e=>hn (hs k e))⟩
theorem qz.of_below(h:Below w.heap.size w w'):qz S w w':=⟨h.os,h.tape,h.output,h.size,fun k hk _=>h.block k hk⟩
theorem qz.drew(h:qz S a w):qz S a w.drew:=⟨h.os,h.tape,h.output,h.size,h.block⟩
theorem qz.drewN(h:qz S a w)(n:Nat):qz S a (w.drewN n):=⟨h.os,h.tape,h.output,h.size,h.block⟩
theorem qz.alloc(h:qz S a w)(o:Obj):qz S a (w.alloc o) :=
 h.trans (S':=fun _=>False) ⟨rfl,rfl,rfl,by simp,fun k hk _=>Below.heap_alloc _ _ _ hk⟩ (fun _ e=>e.elim)
theorem qz.setCell(h:qz S a w)(p:Addr)(u:Value)(hp:S p.block∨a.heap.size≤p.block):qz S a (w.setCell p u) :=
 h.trans (S':=fun k=>k=p.block) ⟨rfl,rfl,rfl,by simp[World.setCell],fun k _ hn=>Below.heap_setCell _ _ _ _ hn⟩ (fun i e=>by rw[e];exact hp)
theorem qz.below{B:Nat}(h:qz S a w)(hs:∀i,S i→B≤i)(hB:B≤a.heap.size):Below B a w :=
 ⟨h.os,h.tape,h.output,h.size,fun k hk=>h.block k (by omega) (fun e=>by have:=hs k e;omega)⟩
end
end Go.Proofs.YtdpbdkacngaemaaGreatDoor.ib
namespace Go.Proofs.YtdpbdkacngaemaaGreatDoor.ib
open _root_.Go.Proofs.Tryz Go Go.RowKit
def qh (cs:List Int):Array Value:=(cs.map (Value.int .i64)).toArray
theorem uo (cs:List Int)(i:Nat)(h:i<cs.length):(qh cs)[i]?=some (.int .i64 cs[i]):=by simp[qh,h]
theorem kH (cs:List Int):(qh cs).size=cs.length:=by simp[qh]
theorem nM (cs:List Int)(i:Nat)(v:Int):(qh cs).setIfInBounds i (.int .i64 v)=qh (cs.set i v):=by
 unfold qh;rw[List.setIfInBounds_toArray,List.map_set]
theorem qeV(n:Nat):madeCells #[.int .i64 0] n=qh (List.replicate n 0):=by
 apply Array.ext
 ·simp[size_madeCells,qh]
 ·intro j h1 h2;have e:(qh (List.replicate n 0))[j]?=some (.int .i64 0):=by
   have hj:j<n:=by simpa[qh]using h2
   rw[uo _ _ (by simpa using hj),List.getElem_replicate]
  rw[Array.getElem?_eq_getElem h2]at e;rw[Option.some.inj e];simp[madeCells,Nat.mod_one]
theorem qf.nums{w:World}{g:Nat}{cs:List Int}(h:qf w g 3 (qh cs))(hz:∀z∈cs,qD z):qI w (some ⟨g,0,none⟩) cs:=fun i hi =>
 ⟨g,0,rfl,h.lt,by rw[Nat.zero_add,h.cell i];exact uo cs i hi,hz _ (List.getElem_mem hi)⟩
theorem dB (W:World)(zs:List Int)(hz:∀z∈zs,qD z):qI (W.alloc (.cells (qh zs) 3)) (some ⟨W.heap.size,0,none⟩) zs:=qf.nums (qf.new W 3 (qh zs)) hz
theorem tv (n:Int)(h0:0≤n)(h:n*8≤140737488355328)(W:World):(Instr.makeSlice 80 (.int .i64 n) (.int .i64 n)).run prog W=.ok (.slice (some ⟨W.heap.size,0,none⟩) n.toNat n.toNat) (W.alloc (.cells (qh (List.replicate n.toNat 0)) 3)):=by
 obtain⟨i0,hi,hz0,hz1,hz2⟩:=info_parts wN;have hmk:=run_make (P:=prog) W 80 3 i0 (.int .i64 0) underlying80 hi hz0 .i64 .i64 n n h0 (Int.le_refl _) (by rw[hz2];omega) (by omega);rw[hz1]at hmk;rw[← qeV];simpa[Value.cells]using hmk
def uC (r:Bool)(w:World)(e:Ending)(w':World):Prop:=e=.returned (.bool r)∧Below w.heap.size w w'
def bV (r:Int)(w:World)(e:Ending)(w':World):Prop:=e=.returned (.int .i64 r)∧Below w.heap.size w w'
structure New(w w':World)(A:Option Addr)(r:List Int)(cc:Nat):Prop where
 ints:qI w' A r
 free:∀i,i<r.length→∀b o,A=some ⟨b,o,none⟩→w'.frozen? ⟨b,o+i,none⟩=false
 new:∀b o,A=some ⟨b,o,none⟩→w.heap.size≤b∧b<w'.heap.size
 cap:r.length≤cc
 nil:A=none→r.length=0∧cc=0
structure js(w:World)(A:Option Addr)(l:List Int)(c:Nat):Prop where
 ints:qI w A l
 cap:l.length≤c
 nil:A=none→l.length=0∧c=0
theorem js.below{w w':World}{A:Option Addr}{l:List Int}{c:Nat}(h:js w A l c)(hb:Below w.heap.size w w'):js w' A l c:=⟨h.ints.below hb,h.cap,h.nil⟩
theorem New.sl{w w':World}{A:Option Addr}{r:List Int}{cc:Nat}(h:New w w' A r cc):js w' A r cc:=⟨h.ints,h.cap,h.nil⟩
theorem js.none(w:World):js w none [] 0:=⟨qI.nil _ _,Nat.le_refl _,fun _=>⟨rfl,rfl⟩⟩
theorem qu8(W:World)(zs:List Int)(hz:∀z∈zs,qD z):js (W.alloc (.cells (qh zs) 3)) (some ⟨W.heap.size,0,Option.none⟩) zs zs.length:=⟨dB W zs hz,Nat.le_refl _,fun h=>by cases h⟩
def qi9 (r:List Int × Int)(w:World)(e:Ending)(w':World):Prop:=∃A cc,e=.returned (.tuple #[.slice A r.1.length cc,.int .i64 r.2])∧New w w' A r.1 cc∧Below w.heap.size w w'
theorem New.empty(w w':World):New w w' none [] 0:=⟨qI.nil _ _,fun _ h=>absurd h (by simp),(fun _ _ h=>by cases h),Nat.le_refl _,fun _=>⟨rfl,rfl⟩⟩
theorem nN {c:Int}{w w':World}(h:Below w.heap.size w w'):qi9 ([],c) w (.returned (.tuple #[.slice none 0 0,.int .i64 c])) w' :=
 ⟨none,0,rfl,New.empty _ _,h⟩
theorem zg.new{w w':World}{v:Value}{zs:List Int}(h:zg w' w.heap.size v zs)(hz:∀z∈zs,qD z):∃A cc,v=.slice A zs.length cc∧New w w' A zs cc:=by
 rcases h.2 with⟨rfl,h0⟩|⟨g,cap,cur,rfl,hg,hh,hcc,hm,hcs,xC⟩
 ·obtain rfl:zs=[]:=List.length_eq_zero_iff.1 h0;exact⟨none,0,rfl,New.empty _ _⟩
 ·obtain⟨A,cc,hv,hi,hb⟩:=h.view hz;simp only[Value.slice.injEq]at hv;obtain⟨rfl,_,rfl⟩:=hv;refine⟨_,_,rfl,hi,fun i _ b o hA=>?_,hb,by omega,fun h=>by cases h⟩;simp only[Option.some.injEq,Addr.mk.injEq,and_true]at hA;obtain⟨rfl,_⟩:=hA;simp[World.frozen?,hh]
theorem qeW{w w':World}{v:Value}{zs:List Int}{c:Int}{r:List Int × Int}(ho:zg w' w.heap.size v zs)(hz:∀z∈zs,qD z)(hb:Below w.heap.size w w')(hr:r=(zs,c)) :
    qi9 r w (.returned (.tuple #[v,.int .i64 c])) w':=by
 subst hr;obtain⟨A,cc,rfl,hn⟩:=ho.new hz;exact⟨A,cc,rfl,hn,hb⟩
end Go.Proofs.YtdpbdkacngaemaaGreatDoor.ib
namespace Go.Proofs.YtdpbdkacngaemaaGreatDoor
open _root_.Go.Proofs.Tryz Go Go.RowKit
theorem jK {P:Program}{id:Nat}{Q:Exit→Act→World→Prop}{a:Act}{w:World}{l:List Oper}(n:Nat)(hm:P.follows .mixedOrders=true)(hB:Region.lexTailB .any l.toArray n=true)
    (h:wpStill P l.toArray w.drew (fun a'=>wpList P l.toArray Q (l.drop n) a' w.drew) (l.take n) a):(Code.region id l.toArray true).wp P Q a w :=
 wp_region_still_tail n hm hB h
theorem kI {P:Program}{ops:Array Oper}{w:World}{Q:Act→Prop}{o:Oper}{rest:List Oper}{a:Act}{v:Value}(hg:o.guard=none)(h:(execOp a.eval o).run P w=.ok (.value v) w)
    (hn:wpStill P ops w Q rest (a.put o.dst v)):wpStill P ops w Q (o::rest) a:=by
 have hw:Region.wanted o (yielded ops a.tmps)=true:=by simp[Region.wanted,hg]
 unfold wpStill;rw[if_pos hw];unfold Oper.still;rw[h];exact⟨rfl,hn⟩
theorem qmg{P:Program}{o:Oper}{a:Act}{w w':World}{v:Value}{K:Act→World→Prop}{Q:Exit→Act→World→Prop}(h:(execOp a.eval o).run P w=.ok (.value v) w')(hn:K (a.put o.dst v) w'):o.wp P a w K Q:=by
 unfold Oper.wp;rw[h];exact hn
theorem qi {P:Program}{ops:Array Oper}{rest:List Oper}{o:Oper}{a:Act}{w w':World}{v:Value}{Q:Exit→Act→World→Prop}(hg:o.guard=none)(h:(execOp a.eval o).run P w=.ok (.value v) w')
    (hn:wpList P ops Q rest (a.put o.dst v) w'):wpList P ops Q (o::rest) a w :=
 wpList_plain hg fun _ hK=>qmg h (hK _ _ hn)
theorem wp_skip{P:Program}{o:Oper}{a:Act}{w w':World}{K:Act→World→Prop}{Q:Exit→Act→World→Prop}(h:(execOp a.eval o).run P w=.ok .skip w')(hn:K (a.put o.dst undef) w'):o.wp P a w K Q:=by
 unfold Oper.wp;rw[h];exact hn
theorem wpList_skip{P:Program}{ops:Array Oper}{rest:List Oper}{o:Oper}{a:Act}{w w':World}{Q:Exit→Act→World→Prop}(hg:o.guard=none)(h:(execOp a.eval o).run P w=.ok .skip w')
    (hn:wpList P ops Q rest (a.put o.dst undef) w'):wpList P ops Q (o::rest) a w :=
 wpList_plain hg fun _ hK=>wp_skip h (hK _ _ hn)
end Go.Proofs.YtdpbdkacngaemaaGreatDoor
namespace Go.Proofs.YtdpbdkacngaemaaGreatDoor.ib
open _root_.Go.Proofs.Tryz Go Go.RowKit
abbrev Bt:=List UInt8
def zz:Bt:=List.replicate 32 0
def rep (c:UInt8)(n:Nat):Bt:=List.replicate n c
def dat (c:UInt8):Bt:=if c.toNat≤250 then rep c 32 else rep c (c.toNat%31)
theorem ze:zz.length=32:=by simp[zz]
theorem lK (z:Nat):madeCells #[Value.int .u8 0] z=(Lib.byteCells (List.replicate z 0)).toArray:=by
 apply Array.ext';apply List.ext_getElem?;intro j;by_cases hj:j<z <;> simp[madeCells,Lib.byteCells,hj,Nat.mod_one]
theorem qeX(e:Int)(z:Nat)(w:World)(he:e=(z:Int))(hz:z≤1000000) :
    (Instr.makeSlice 64 (.int .i64 e) (.int .i64 e)).run prog w=.ok (.slice (some ⟨w.heap.size,0,none⟩) z z) (w.alloc (.cells (Lib.byteCells (List.replicate z 0)).toArray 5)):=by
 subst he;obtain⟨i0,hi,hz0,hz1,hz2⟩:=info_parts Tryz.nI;have hmk:=run_make (P:=prog) w 64 5 i0 (.int .u8 0) underlying64 hi hz0 .i64 .i64 (z:Int) (z:Int) (by omega) (by omega) (by rw[hz2];omega) (by omega);rw[hz1]at hmk;rw[← lK];simpa[Value.cells]using hmk
theorem qc0{ρ:Operand→Value}{o:Oper}{w:World}(x y:Operand)(z:Nat)(ho:o.op=.makeSlice 64 x y)(hx:ρ x=.int .i64 (z:Int))(hy:ρ y=.int .i64 (z:Int))(hz:z≤1000000) :
    (execOp ρ o).run prog w=.ok (.value (.slice (some ⟨w.heap.size,0,none⟩) z z)) (w.alloc (.cells (Lib.byteCells (List.replicate z 0)).toArray 5)):=by
 have hr:=qeX (z:Int) z w rfl hz;simp[execOp,ho,hx,hy,hr,Result.andThen]
theorem wO (P:Bt)(b k:Nat)(t:TypeId)(w:World)(hk:P.length=k)(h:w.heap[b]?=some (.cells (Lib.byteCells P).toArray t (0,0))) :
    (convert 64 9 (.slice (some ⟨b,0,none⟩) k k)).run prog w=.ok (.string (str P)) w:=by
 subst hk;refine run_convert_bytes_back (P:=prog) w 64 9 5 ⟨b,0,none⟩ P.length P underlying64 underlying5 underlying9 ?_;intro j hj;rw[addr_add,Nat.zero_add,cell_of_row w b j _ _ _ h];simp[Lib.byteCells,hj]
def okS (v:Bt)(w:World)(e:Ending)(w':World):Prop:=e=.returned (.string (str v))∧Below w.heap.size w w'
def w6 (c:UInt8)(k:Nat):Array Value:=(Lib.byteCells (List.replicate k c++List.replicate (32-k) 0)).toArray
theorem qeY(c:UInt8):w6 c 0=(Lib.byteCells (List.replicate 32 0)).toArray:=rfl
theorem qeZ(c:UInt8)(k:Nat)(h:k≤32):(w6 c k).size=32:=by simp[w6,Lib.byteCells];omega
theorem qiA(c:UInt8)(k:Nat)(h:k<32):(w6 c k).setIfInBounds k (.int .u8 (c.toNat:Int))=w6 c (k+1):=by
 unfold w6 Lib.byteCells;simp only[List.setIfInBounds_toArray,List.map_append,List.map_replicate];rw[List.set_append_right _ _ (by simp)]
 congr 1
 rw[show 32-k=(32-(k+1))+1 by omega,List.replicate_succ,List.replicate_succ'];simp
theorem qfa(c:UInt8)(n:Nat):(rep c n).length=n:=by simp[rep]
theorem qfb(c:UInt8):w6 c 32=(Lib.byteCells (rep c 32)).toArray:=by simp[w6,rep]
def kA (x:Int):Prop:=-9223372036854775808≤x∧x≤9223372036854775807
def TxL (w:World)(A:Option Addr)(ts:List Bt):Prop :=
 ∀i (h:i<ts.length),∃b o,A=some ⟨b,o,none⟩∧b<w.heap.size∧w.cell? ⟨b,o+i,none⟩=some (.string (str ts[i]))
theorem TxL.kept{w w':World}{A:Option Addr}{ts:List Bt}(h:TxL w A ts)(hs:w.heap.size≤w'.heap.size)(hk:∀b o,A=some ⟨b,o,none⟩→w'.heap[b]?=w.heap[b]?):TxL w' A ts:=by
 intro i hi;obtain⟨b,o,h1,h2,h3⟩:=h i hi;exact⟨b,o,h1,Nat.lt_of_lt_of_le h2 hs,by rw[World.cell?_of_block (a:=⟨b,o+i,none⟩) (hk b o h1)];exact h3⟩
theorem TxL.below{w w':World}{A:Option Addr}{ts:List Bt}(h:TxL w A ts)(hb:Below w.heap.size w w'):TxL w' A ts:=by
 intro i hi;obtain⟨b,o,h1,h2,h3⟩:=h i hi;exact⟨b,o,h1,Nat.lt_of_lt_of_le h2 hb.size,by rw[hb.cell (p:=⟨b,o+i,none⟩) h2];exact h3⟩
def wa (w w':World)(A:Option Addr):Prop:=∀b o,A=some ⟨b,o,none⟩→w.heap.size≤b∧b<w'.heap.size
theorem wa.none(w w':World):wa w w' none:=fun _ _ h=>by cases h
end Go.Proofs.YtdpbdkacngaemaaGreatDoor.ib
namespace Go.Proofs.YtdpbdkacngaemaaGreatDoor.mt
open _root_.Go.Proofs.Tryz Go Go.RowKit ib wi
def jL (w:World)(A:Option Addr)(xs:List Sp):Prop :=
 ∀i (h:i<xs.length),∃b o B c,A=some ⟨b,o,none⟩∧b<w.heap.size∧w.cell? ⟨b,o+i*4,none⟩=some (.int .u64 (xs[i].g.1:Int))∧w.cell? ⟨b,o+i*4+1,none⟩=some (.int .u64 (xs[i].g.2:Int)) ∧
  w.cell? ⟨b,o+i*4+2,none⟩=some (.slice B xs[i].qp.length c)∧w.cell? ⟨b,o+i*4+3,none⟩=some (.bool xs[i].hid)∧js w B xs[i].qp c∧xB xs[i].g
theorem jL.below{w w':World}{A:Option Addr}{xs:List Sp}(h:jL w A xs)(hb:Below w.heap.size w w'):jL w' A xs:=by
 intro i hi;obtain⟨b,o,B,c,h1,h2,h3,h4,h5,h6,h7,h8⟩:=h i hi;exact⟨b,o,B,c,h1,Nat.lt_of_lt_of_le h2 hb.size,by rw[hb.cell (p:=⟨b,o+i*4,none⟩) h2];exact h3,by rw[hb.cell (p:=⟨b,o+i*4+1,none⟩) h2];exact h4,by rw[hb.cell (p:=⟨b,o+i*4+2,none⟩) h2];exact h5,by rw[hb.cell (p:=⟨b,o+i*4+3,none⟩) h2];exact h6,h7.below hb,h8⟩
theorem jL.nil(w:World)(A:Option Addr):jL w A []:=fun i h=>absurd h (by simp)
theorem jL.tx{w:World}{A:Option Addr}{xs:List Sp}(h:jL w A xs):∀s∈xs,xB s.g:=by
 intro s hs;obtain⟨i,hi,rfl⟩:=List.getElem_of_mem hs;obtain⟨_,_,_,_,_,_,_,_,_,_,_,h8⟩:=h i hi;exact h8
def zF (A0 A1 A2:Option Addr)(c0 c1 c2:Nat)(m:Mt):Array Value:=#[.slice A0 m.live.length c0,.slice A1 m.qc.length c1,.int .u64 (m.tok.base.1:Int),.int .u64 (m.tok.base.2:Int),.int .u64 (m.tok.target.1:Int),.int .u64 (m.tok.target.2:Int),.int .i64 m.tok.next,.int .i64 m.tok.all,.slice A2 m.tok.qp.length c2]
structure MtL(w:World)(A0 A1 A2:Option Addr)(c0 c1 c2:Nat)(m:Mt):Prop where
 live:js w A0 m.live c0
 qc:jL w A1 m.qc
 room:m.qc.length≤c1∧(A1=none→m.qc.length=0∧c1=0)
 qp:js w A2 m.tok.qp c2
 base:xB m.tok.base
 target:xB m.tok.target
 next:qD m.tok.next
 all:qD m.tok.all
theorem MtL.below{w w':World}{A0 A1 A2:Option Addr}{c0 c1 c2:Nat}{m:Mt}(h:MtL w A0 A1 A2 c0 c1 c2 m)(hb:Below w.heap.size w w'):MtL w' A0 A1 A2 c0 c1 c2 m :=
 ⟨h.live.below hb,h.qc.below hb,h.room,h.qp.below hb,h.base,h.target,h.next,h.all⟩
theorem MtL.mB{w:World}{A0 A1 A2:Option Addr}{c0 c1 c2:Nat}{m:Mt}(h:MtL w A0 A1 A2 c0 c1 c2 m):mB m:=⟨h.qc.tx,h.base,h.target⟩
structure mtS(m:Mt):Prop where
 live:m.live.length≤1000
 qc:m.qc.length≤1000
 dC:∀s∈m.qc,s.qp.length≤1000
 qp:m.tok.qp.length≤1000
def si (w:World)(v:Value)(m:Mt):Prop:=∃A0 A1 A2 c0 c1 c2,v=.agg (zF A0 A1 A2 c0 c1 c2 m)∧MtL w A0 A1 A2 c0 c1 c2 m
theorem si.below{w w':World}{v:Value}{m:Mt}(h:si w v m)(hb:Below w.heap.size w w'):si w' v m:=by
 obtain⟨A0,A1,A2,c0,c1,c2,h1,h2⟩:=h;exact⟨A0,A1,A2,c0,c1,c2,h1,h2.below hb⟩
theorem si.mB{w:World}{v:Value}{m:Mt}(h:si w v m):mB m:=by
 obtain⟨A0,A1,A2,c0,c1,c2,h1,h2⟩:=h;exact h2.mB
def qu9 (r:List UInt8 × Int)(w:World)(e:Ending)(w':World):Prop:=e=.returned (.tuple #[.string (str r.1),.int .i64 r.2])∧Below w.heap.size w w'
end Go.Proofs.YtdpbdkacngaemaaGreatDoor.mt
namespace Go.Proofs.YtdpbdkacngaemaaGreatDoor.mt
open _root_.Go.Proofs.Tryz Go Go.RowKit ib
@[go_sem] theorem qy1 (a b c d:Int) (w:World):(Op.equalIn 10000 38 (.agg #[.int .u64 a,.int .u64 b]) (.agg #[.int .u64 c,.int .u64 d])).run prog w=.ok (a == c&&b == d) w:=by
 have u3:=underlying36;have a3:=isAgg36;have z3:=sizeOf36;rw[show(10000:Nat)=9999+1 from rfl,run_equalIn_agg w 9999 38 _ _ (by kernel_rfl) (by kernel_rfl)];simp only[Program.fieldsOf,underlying38];go_simp;by_cases h1:a=c <;> by_cases h2:b=d <;> simp[h1,h2]
def gv (g:Gd):Value:=.agg #[.int .u64 (g.1:Int),.int .u64 (g.2:Int)]
theorem qmj(x y:Gd):((x.1:Int) == (y.1:Int)&&(x.2:Int) == (y.2:Int))=decide (x=y):=by
 obtain⟨a,b⟩:=x;obtain⟨c,d⟩:=y;rw[Bool.eq_iff_iff];simp;omega
end Go.Proofs.YtdpbdkacngaemaaGreatDoor.mt
namespace Go.Proofs.YtdpbdkacngaemaaGreatDoor.wi
open _root_.Go.Proofs.Tryz Go.RowKit
def bD (c:Nat)(s:ByteArray)(bad:Bool)(w:World):Prop:=w.heap[c]?=some (.cells #[.string s,.bool bad] 208 (0,0))∧s.size≤1000000
theorem bD.cells{c:Nat}{s:ByteArray}{bad:Bool}{w:World}(h:bD c s bad w) :
    w.cell? ⟨c,0,none⟩=some (.string s)∧w.cell? ⟨c,1,none⟩=some (.bool bad)∧w.frozen? ⟨c,0,none⟩=false∧w.frozen? ⟨c,1,none⟩=false:=by
 obtain⟨hb,_⟩:=h;exact⟨by simp[World.cell?,hb],by simp[World.cell?,hb],by simp[World.frozen?,hb],by simp[World.frozen?,hb]⟩
theorem bD.qmk{c:Nat}{s:ByteArray}{bad:Bool}{w:World}(h:bD c s bad w)(t:ByteArray)(ht:t.size≤1000000):bD c t bad (w.setCell ⟨c,0,none⟩ (.string t)):=by
 have:=heap_setCell_same w c 0 _ 208 (.string t) h.1;exact⟨by rw[this];simp,ht⟩
theorem bD.qml{c:Nat}{s:ByteArray}{bad:Bool}{w:World}(h:bD c s bad w)(x:Bool):bD c s x (w.setCell ⟨c,1,none⟩ (.bool x)):=by
 have:=heap_setCell_same w c 1 _ 208 (.bool x) h.1;exact⟨by rw[this];simp,h.2⟩
theorem aH (c o:Nat)(w:World)(v:Value):w.grownBy (w.setCell ⟨c,o,none⟩ v) (some c) :=
 ⟨rfl,rfl,rfl,by simp[World.setCell],fun k _ hk=>Below.heap_setCell _ _ _ _ (fun e=>hk (by simp[e]))⟩
theorem grown_drewN{w w':World}{r:Option Nat}(h:w.grownBy w' r)(n:Nat):w.grownBy (w'.drewN n) r:=⟨h.os,h.tape,h.output,h.size,h.block⟩
theorem uD {w w':World}{r:Option Nat}{n:Nat}(h:(w.drewN n).grownBy w' r):w.grownBy w' r:=⟨h.os,h.tape,h.output,h.size,h.block⟩
theorem dD (c:Nat)(s:ByteArray)(bad:Bool)(w:World)(h:bD c s bad w) :
    Calls prog 260 #[.pointer (some ⟨c,0,none⟩)] w fun e w'=>e=.returned (.tuple #[])∧bD c ⟨#[]⟩ true w'∧w.grownBy w' (some c):=by
 obtain⟨h1,h2,h3,h4⟩:=h.cells;have H:=QH ((h.qmk ⟨#[]⟩ (by decide)).qml true);have G:=QH (zU (aH c 0 w (.string ⟨#[]⟩)) (aH c 1 _ (.bool true)));clear h;go_enter func260,ntmps260;go_wp2
 go_end0
 exact⟨rfl,H.out,G.out⟩
def qfc (c:Nat)(s:ByteArray)(w:World)(e:Ending)(w':World):Prop :=
 w.grownBy w' (some c) ∧
  ((∃n r s',rdNum (bl s)=some (n,r)∧e=.returned (.int .u64 (n:Int))∧bl s'=r∧bD c s' false w') ∨
   (rdNum (bl s)=none∧e=.returned (.int .u64 0)∧bD c ⟨#[]⟩ true w'))
def tA (c:Nat)(w:World)(e:Ending)(w':World):Prop :=
 w.grownBy w' (some c)∧e=.returned (.int .u64 0)∧bD c ⟨#[]⟩ true w'
theorem quA(s:ByteArray)(i:Nat)(h:i<s.size):(bl s)[i]'(by rw[zj];exact h)=s[i]:=rfl
theorem qq6(s:ByteArray)(h:0<s.size):bl s=s[0]::(bl s).drop 1:=by
 have hl:0<(bl s).length:=by rw[zj];exact h
 have:=List.drop_eq_getElem_cons hl;rw[List.drop_zero]at this;rw[this];rfl
theorem qy2(c:Nat)(s:ByteArray)(w:World)(h:bD c s true w) :
    Calls prog 214 #[.pointer (some ⟨c,0,none⟩)] w (tA c w):=by
 obtain⟨h1,h2,h3,h4⟩:=h.cells;go_enter func214,ntmps214;go_wp2;go_quiet (fail);have hq:bD c s true (w.drewN nq):=h;go_wp2_with (go_at_call 260;refine(dD c s true _ hq).mono ?_);rintro e w2 ⟨rfl,sj,hg2⟩;have Hg:=QH (uD hg2);clear hg2;go_wp2;go_ret;exact⟨Hg.out,rfl,sj⟩
theorem qq7(c:Nat)(s:ByteArray)(w:World)(h:bD c s false w)(hp:s.size=0) :
    Calls prog 214 #[.pointer (some ⟨c,0,none⟩)] w (tA c w):=by
 obtain⟨h1,h2,h3,h4⟩:=h.cells;have e1:=QH (show((s.size:Int) == 0)=true by rw[beq_iff_eq];omega);clear hp;go_enter func214,ntmps214;go_wp2;have f1:=e1.out;go_quiet (fail);have hq:bD c s false (w.drewN nq):=h;go_wp2_with (go_at_call 260;refine(dD c s false _ hq).mono ?_);rintro e w2 ⟨rfl,sj,hg2⟩;have Hg:=QH (uD hg2);clear hg2;go_wp2;go_ret;exact⟨Hg.out,rfl,sj⟩
theorem qy3(c:Nat)(s:ByteArray)(w:World)(h:bD c s false w)(hp:0<s.size)(hk:8<s[0].toNat) :
    Calls prog 214 #[.pointer (some ⟨c,0,none⟩)] w (tA c w):=by
 obtain⟨h1,h2,h3,h4⟩:=h.cells;have hp0:0<s.size:=by omega
 have hpi:(0:Int)<(s.size:Int):=by omega
 have e1:=QH (show((s.size:Int) == 0)=false by rw[beq_eq_false_iff_ne];omega);have e2:=QH (show decide ((8:Int)<(s[0].toNat:Int))=true by rw[decide_eq_true_iff];omega);go_enter func214,ntmps214;go_wp2;have f1:=e1.out;have f2:=e2.out;go_quiet (fail);have hq:bD c s false (w.drewN nq):=h;go_wp2_with (go_at_call 260;refine(dD c s false _ hq).mono ?_);rintro e w2 ⟨rfl,sj,hg2⟩;have Hg:=QH (uD hg2);clear hg2;go_wp2;go_ret;exact⟨Hg.out,rfl,sj⟩
theorem qq8(c:Nat)(s:ByteArray)(w:World)(h:bD c s false w)(hp:0<s.size)(hk:s[0].toNat≤8)(hl:s.size<1+s[0].toNat) :
    Calls prog 214 #[.pointer (some ⟨c,0,none⟩)] w (tA c w):=by
 obtain⟨h1,h2,h3,h4⟩:=h.cells;have hp0:0<s.size:=by omega
 have hpi:(0:Int)<(s.size:Int):=by omega
 have e1:=QH (show((s.size:Int) == 0)=false by rw[beq_eq_false_iff_ne];omega);have e2:=QH (show decide ((8:Int)<(s[0].toNat:Int))=false by rw[decide_eq_false_iff_not];omega);have e3:=QH (show decide ((s.size:Int)<(1:Int)+(s[0].toNat:Int))=true by rw[decide_eq_true_iff];omega);go_enter func214,ntmps214;go_wp2;have f1:=e1.out;have f2:=e2.out;have f3:=e3.out;go_quiet (fail);have hq:bD c s false (w.drewN nq):=h;go_wp2_with (go_at_call 260;refine(dD c s false _ hq).mono ?_);rintro e w2 ⟨rfl,sj,hg2⟩;have Hg:=QH (uD hg2);clear hg2;go_wp2;go_ret;exact⟨Hg.out,rfl,sj⟩
theorem quB(c:Nat)(s:ByteArray)(w:World)(h:bD c s false w)(hp:1<s.size)(hk:s[0].toNat≤8)(hl:1+s[0].toNat≤s.size)(hk0:0<s[0].toNat)(h0:s[1].toNat=0) :
    Calls prog 214 #[.pointer (some ⟨c,0,none⟩)] w (tA c w):=by
 obtain⟨h1,h2,h3,h4⟩:=h.cells;have hp0:0<s.size:=by omega
 have hpi:(0:Int)<(s.size:Int):=by omega
 have e1:=QH (show((s.size:Int) == 0)=false by rw[beq_eq_false_iff_ne];omega);have q3P:(1:Int)<(s.size:Int):=by omega
 have e2:=QH (show decide ((8:Int)<(s[0].toNat:Int))=false by rw[decide_eq_false_iff_not];omega);have e3:=QH (show decide ((s.size:Int)<(1:Int)+(s[0].toNat:Int))=false by rw[decide_eq_false_iff_not];omega);have e4:=QH (show decide ((0:Int)<(s[0].toNat:Int))=true by rw[decide_eq_true_iff];omega);have e5:=QH (show((s[1].toNat:Int) == 0)=true by rw[beq_iff_eq];omega);clear h0;go_enter func214,ntmps214;go_wp2;have f1:=e1.out;have f2:=e2.out;have f3:=e3.out;have f4:=e4.out;have f5:=e5.out;go_quiet (fail);have hq:bD c s false (w.drewN nq):=h;go_wp2_with (go_at_call 260;refine(dD c s false _ hq).mono ?_);rintro e w2 ⟨rfl,sj,hg2⟩;have Hg:=QH (uD hg2);clear hg2;go_wp2;go_ret;exact⟨Hg.out,rfl,sj⟩
theorem wM (s:ByteArray)(k:Nat):bl (s.extract k s.size)=(bl s).drop k:=by
 obtain⟨⟨l⟩⟩:=s;simp only[bl,ByteArray.size];simp;exact List.take_of_length_le (by simp)
def yE (s:ByteArray):List UInt8:=(bl s).drop 1
theorem iz (s:ByteArray):(yE s).length=s.size-1:=by unfold yE;rw[List.length_drop,zj]
theorem tB (s:ByteArray)(j:Nat)(h:j+1<s.size):(yE s)[j]'(by rw[iz];omega)=s[j+1]:=by
 unfold yE;rw[List.getElem_drop];have:=quA s (j+1) h;rw[← this]
 congr 1
 omega
def qmm (c:Nat)(s:ByteArray)(k:Nat)(w:World)(e:Ending)(w':World):Prop :=
 w.grownBy w' (some c)∧e=.returned (.int .u64 ((val ((yE s).take k):Nat):Int))∧bD c (s.extract (1+k) s.size) false w'
def q3Q (d:List UInt8)(k:Nat)(n i:Value):Prop:=∃j:Nat,j≤k∧i=.int .i64 ((j:Int)+1)∧n=.int .u64 ((val (d.take j):Nat):Int)
theorem quC(c:Nat)(s:ByteArray)(w:World)(h:bD c s false w)(hp:1<s.size)(hk:s[0].toNat≤8)(hl:1+s[0].toNat≤s.size)(hk0:0<s[0].toNat)(h0:s[1].toNat≠0) :
    Calls prog 214 #[.pointer (some ⟨c,0,none⟩)] w (qmm c s s[0].toNat w):=by
 obtain⟨h1,h2,h3,h4⟩:=h.cells;have hp0:0<s.size:=by omega
 have hpi:(0:Int)<(s.size:Int):=by omega
 have e1:=QH (show((s.size:Int) == 0)=false by rw[beq_eq_false_iff_ne];omega);have q3P:(1:Int)<(s.size:Int):=by omega
 have e2:=QH (show decide ((8:Int)<(s[0].toNat:Int))=false by rw[decide_eq_false_iff_not];omega);have e3:=QH (show decide ((s.size:Int)<(1:Int)+(s[0].toNat:Int))=false by rw[decide_eq_false_iff_not];omega);have e4:=QH (show decide ((0:Int)<(s[0].toNat:Int))=true by rw[decide_eq_true_iff];omega);have e5:=QH (show((s[1].toNat:Int) == 0)=false by rw[beq_eq_false_iff_ne];omega);clear h0;go_enter func214,ntmps214;go_wp2;have f1:=e1.out;have f2:=e2.out;have f3:=e3.out;have f4:=e4.out;have f5:=e5.out;go_quiet (fail);obtain⟨W,hW⟩:∃W,W=w.drewN nq:=⟨_,rfl⟩;have hq:bD c s false W:=by rw[hW];exact h
 have hgW:=QH (show w.grownBy W (some c)from by rw[hW];exact grown_drewN (kg w _) nq);rw[← hW];clear hW h h1 h2 h3 h4;obtain⟨h1,h2,h3,h4⟩:=hq.cells;have hx:(s.extract (1+s[0].toNat) s.size).size≤1000000:=by have:=hq.2;simp;omega
 have HQ:=QH (hq.qmk _ hx);have HG:=QH (aH c 0 W (.string (s.extract (1+s[0].toNat) s.size)));have hs1:s.size≤1000000:=hq.2;have hdl:=QH (iz s);have HL:=QH hl;clear hq;go_wp2;go_loop [3,5] (fun n i=>q3Q (yE s) s[0].toNat n i) (fun _ i=>s[0].toNat+1-(intOf i).toNat);case atStart=>exact⟨0,Nat.zero_le _,rfl,rfl⟩
 case round =>
  obtain⟨j,hj,rfl,rfl⟩:=hrel;have hl2:=HL.out;by_cases hlt:j<s[0].toNat
  ·have hd:=hdl.out;have hs:=qcv (yE s) j (by omega);have hb:val ((yE s).take j)<72057594037927936:=by
    have a:=qeL ((yE s).take j);have b:256 ^ ((yE s).take j).length≤256 ^ 7:=Nat.pow_le_pow_right (by omega) (by rw[List.length_take];omega);have e:(256:Nat) ^ 7=72057594037927936:=by decide
    omega
   have gX:j+1<s.size:=by omega
   have hg:=tB s j gX;rw[hg]at hs;have Hs:=QH hs;have hzb:s[j+1].toNat<256:=s[j+1].toNat_lt;have zav:(j:Int)+1<(s.size:Int):=by omega
   clear hs hg hd;generalize val ((yE s).take j)=v at *;go_wp2;exact⟨⟨j+1,by omega,by go_num,by rw[Hs.out];go_num⟩,by simp[intOf];omega⟩
  ·have hjk:s[0].toNat≤j:=by omega
   have hjj:j=s[0].toNat:=by omega
   have Hj:=QH hjj;clear hjj;go_wp2;go_ret;exact⟨zU hgW.out HG.out,by rw[← Hj.out];rfl,HQ.out⟩
def qq9 (c:Nat)(s:ByteArray)(w:World)(e:Ending)(w':World):Prop :=
 w.grownBy w' (some c)∧e=.returned (.int .u64 0)∧bD c (s.extract 1 s.size) false w'
theorem qqA(c:Nat)(s:ByteArray)(w:World)(h:bD c s false w)(hp:0<s.size)(hk0:s[0].toNat=0) :
    Calls prog 214 #[.pointer (some ⟨c,0,none⟩)] w (qq9 c s w):=by
 obtain⟨h1,h2,h3,h4⟩:=h.cells;have hpi:(0:Int)<(s.size:Int):=by omega
 have e1:=QH (show((s.size:Int) == 0)=false by rw[beq_eq_false_iff_ne];omega);have e3:=QH (show decide ((s.size:Int)<(1:Int))=false by rw[decide_eq_false_iff_not];omega);go_enter func214,ntmps214;go_wp2;have f1:=e1.out;have f3:=e3.out;go_quiet (fail);obtain⟨W,hW⟩:∃W,W=w.drewN nq:=⟨_,rfl⟩;have hq:bD c s false W:=by rw[hW];exact h
 have hgW:=QH (show w.grownBy W (some c)from by rw[hW];exact grown_drewN (kg w _) nq);rw[← hW];clear hW h h1 h2 h3 h4;obtain⟨h1,h2,h3,h4⟩:=hq.cells;have hx:(s.extract 1 s.size).size≤1000000:=by have:=hq.2;simp;omega
 have HQ:=QH (hq.qmk _ hx);have HG:=QH (aH c 0 W (.string (s.extract 1 s.size)));have hs1:s.size≤1000000:=hq.2;have hs2:1≤s.size:=hp;clear hq;go_wp2;go_loop [3,5] (fun n i=>n=.int .u64 0∧i=.int .i64 1) (fun _ i=>1-(intOf i).toNat);case atStart=>exact⟨rfl,rfl⟩
 case round =>
  obtain⟨rfl,rfl⟩:=hrel;go_wp2;go_ret;exact⟨zU hgW.out HG.out,rfl,HQ.out⟩
theorem wP (k:UInt8)(r:List UInt8):rdNum (k::r) =
    if 8<k.toNat then none else if r.length<k.toNat then none else if (r.take k.toNat).head? = some 0 then none else some (val (r.take k.toNat),r.drop k.toNat):=rfl
theorem qfd(s:ByteArray)(k:Nat):(bl s).drop (1+k)=(yE s).drop k:=by
 unfold yE;rw[List.drop_drop]
theorem qy5(c:Nat)(s:ByteArray)(w:World)(h:bD c s false w) :
    Calls prog 214 #[.pointer (some ⟨c,0,none⟩)] w (qfc c s w):=by
 have hno:∀e w',rdNum (bl s)=none→tA c w e w'→qfc c s w e w':=fun e w' hn ⟨h1,h2,h3⟩=>⟨h1,.inr ⟨hn,h2,h3⟩⟩;by_cases hp:0<s.size
 ·have hc:=qq6 s hp;have hrl:(yE s).length=s.size-1:=iz s;have qy6:∀e w',¬ 8<s[0].toNat→¬ (yE s).length<s[0].toNat→¬ ((yE s).take s[0].toNat).head? = some 0→qmm c s s[0].toNat w e w'→qfc c s w e w':=fun e w' g1 g2 g3 ⟨h1,h2,h3⟩ =>
   ⟨h1,.inl ⟨_,(yE s).drop s[0].toNat,_,by rw[hc];show rdNum (s[0]::yE s)=_;rw[wP,if_neg g1,if_neg g2,if_neg g3],h2,by rw[wM,qfd],h3⟩⟩
  by_cases hk:s[0].toNat≤8
  ·by_cases hl:1+s[0].toNat≤s.size
   ·by_cases hk0:s[0].toNat=0
    ·refine(qqA c s w h hp hk0).mono fun e w' ⟨h1,h2,h3⟩=>qy6 e w' (by omega) (by omega) (by rw[hk0];simp) ⟨h1,by rw[h2,hk0];rfl,by rw[hk0];exact h3⟩
    ·have hp1:1<s.size:=by omega
     have qth:((yE s).take s[0].toNat).head? = some s[1]:=by
      have:=tB s 0 hp1;cases hr:yE s with
      | nil=>rw[hr]at hrl;simp at hrl;omega
      | cons y q =>
       obtain⟨k,zt⟩:∃k,s[0].toNat=k+1:=⟨s[0].toNat-1,by omega⟩;simp only[hr,List.getElem_cons_zero,Nat.zero_add]at this;rw[zt,List.take_succ_cons,List.head?_cons,this]
     by_cases h0:s[1].toNat=0
     ·refine(quB c s w h hp1 hk hl (by omega) h0).mono fun e w'=>hno e w' ?_;rw[hc];show rdNum (s[0]::yE s)=none;have hz:s[1]=0:=by apply UInt8.toNat_inj.1;simpa using h0
      rw[wP,if_neg (by omega),if_neg (by omega),if_pos (by rw[qth,hz])]
     ·refine(quC c s w h hp1 hk hl (by omega) h0).mono fun e w'=>qy6 e w' (by omega) (by omega) ?_;rw[qth];intro hz;simp only[Option.some.injEq]at hz;exact h0 (by rw[hz];rfl)
   ·refine(qq8 c s w h hp hk (by omega)).mono fun e w'=>hno e w' ?_;rw[hc];show rdNum (s[0]::yE s)=none;rw[wP,if_neg (by omega),if_pos (by omega)]
  ·refine(qy3 c s w h hp (by omega)).mono fun e w'=>hno e w' ?_;rw[hc];show rdNum (s[0]::yE s)=none;rw[wP,if_pos (by omega)]
 ·refine(qq7 c s w h (by omega)).mono fun e w'=>hno e w' ?_;have:bl s=[]:=List.length_eq_zero_iff.1 (by rw[zj];omega);rw[this];rfl
end Go.Proofs.YtdpbdkacngaemaaGreatDoor.wi
namespace Go.Proofs.YtdpbdkacngaemaaGreatDoor.mt
open _root_.Go.Proofs.Tryz Go Go.RowKit ib wi
def QS (w:World)(c:Nat)(s:St):Prop:=match s with
 | none=>∃q,bD c q true w
 | some l=>∃q,bl q=l∧bD c q false w
structure RS(w:World)(p c b:Nat)(s:St):Prop where
 blk:qf w p 210 #[.pointer (some ⟨c,0,none⟩),.int .i64 (b:Int)]
 ne:c≠p
 left:QS w c s
def Tc (c:Nat)(j:Nat):Prop:=j=c
theorem jA {w w':World}{c:Nat}(h:w.grownBy w' (some c)):qz (Tc c) w w':=⟨h.os,h.tape,h.output,h.size,fun k hk hn=>h.block k hk (fun e=>hn (by simpa[Tc]using e))⟩
theorem QS.lt{w:World}{c:Nat}{s:St}(h:QS w c s):c<w.heap.size:=by
 unfold QS at h;split at h
 ·obtain⟨q,h1,_⟩:=h;exact(Array.getElem?_eq_some_iff.1 h1).1
 ·obtain⟨q,_,h1,_⟩:=h;exact(Array.getElem?_eq_some_iff.1 h1).1
theorem QS.block{w w':World}{c:Nat}{s:St}(h:QS w c s)(hb:w'.heap[c]?=w.heap[c]?):QS w' c s:=by
 unfold QS at h ⊢;split at h
 ·obtain⟨q,h1,h2⟩:=h;exact⟨q,hb.trans h1,h2⟩
 ·obtain⟨q,h0,h1,h2⟩:=h;exact⟨q,h0,hb.trans h1,h2⟩
theorem RS.below{w w':World}{p c b:Nat}{s:St}(h:RS w p c b s)(hb:Below w.heap.size w w'):RS w' p c b s:=⟨h.blk.below hb,h.ne,h.left.block (hb.block _ h.left.lt)⟩
theorem RS.turn{w w':World}{p c b:Nat}{s s':St}(h:RS w p c b s)(hb:qz (Tc c) w w')(hq:QS w' c s'):RS w' p c b s':=⟨h.blk.of_block (hb.block _ h.blk.lt (fun e=>h.ne e.symm)),h.ne,hq⟩
def qfe (c:Nat)(s:St)(w:World)(e:Ending)(w':World):Prop:=e=.returned (.int .u64 ((zX s).1:Int))∧qz (Tc c) w w'∧QS w' c (zX s).2
theorem eF {w:World}{c:Nat}{s:St}(h:QS w c s):Calls prog 214 #[.pointer (some ⟨c,0,none⟩)] w (qfe c s w):=by
 unfold QS at h;split at h
 ·obtain⟨q,h1⟩:=h;refine(qy2 c q w h1).mono ?_;rintro e w' ⟨hg,rfl,hq⟩;exact⟨rfl,jA hg,_,hq⟩
 ·obtain⟨q,rfl,h1⟩:=h;refine(qy5 c q w h1).mono ?_;rintro e w' ⟨hg,⟨n,r,s',h2,rfl,h3,hq⟩|⟨h2,rfl,hq⟩⟩
  ·have hn:zX (some (bl q))=(n,some r):=by unfold zX;simp only[h2]
   unfold qfe;rw[hn];exact⟨rfl,jA hg,s',h3,hq⟩
  ·have hn:zX (some (bl q))=(0,none):=by unfold zX;simp only[h2]
   unfold qfe;rw[hn];exact⟨rfl,jA hg,_,hq⟩
def quE (p c b:Nat)(s:St)(w:World)(e:Ending)(w':World):Prop:=e=.returned (gv (kS s).1)∧qz (Tc c) w w'∧RS w' p c b (kS s).2
theorem xp {w:World}{p c b:Nat}{s:St}(h:RS w p c b s):Calls prog 133 #[.pointer (some ⟨p,0,none⟩)] w (quE p c b s w):=by
 have hb0:=(Below.refl w.heap.size w).alloc (Nat.le_refl _) (.cells #[.int .u64 0,.int .u64 0] 38);have fZ:=QH (h.below hb0);have mE:=QH (qf.new w 38 #[.int .u64 0,.int .u64 0]);have jt:=QH (qz.of_below (S:=Tc c) hb0);have kJ:=QH h.left.lt;have HPL:=QH h.blk.lt;obtain⟨w0,hw0⟩:=QE (w.alloc (.cells #[.int .u64 0,.int .u64 0] 38));rw[hw0]at fZ mE jt;have c0:=fZ.out.blk.cell 0;simp only[QA,QB,QC]at c0;have hlt:=fZ.out.blk.lt;clear h hb0;go_enter func133,ntmps133;go_wp2_with fail;try rw[hw0]
 clear hw0 c0;refine(eF fZ.out.left).mono ?_;rintro e W1 ⟨rfl,hb1,hq1⟩;have uq:=QH (fZ.out.turn hb1 hq1);have ia:=QH (mE.out.of_block (hb1.block _ mE.out.lt (fun e=>by have:=kJ.out;unfold Tc at e;omega)));have qO:=QH (jt.out.trans hb1 (fun i hi=>.inl hi));clear hb1 hq1 jt mE;have c0:=uq.out.blk.cell 0;simp only[QA,QB,QC]at c0;have hlt:=uq.out.blk.lt;obtain⟨x,hx⟩:=QE ((zX s).1:Nat);rw[hx];have HX:=QH hx;clear hx;dsimp only;go_wp2_with fail;refine(eF uq.out.left).mono ?_;rintro e W2 ⟨rfl,hb2,sj⟩;have jM:=QH (uq.out.turn hb2 sj);have wb:=QH (ia.out.of_block (hb2.block _ ia.out.lt (fun e=>by have:=kJ.out;unfold Tc at e;omega)));have qA:=QH (qO.out.trans hb2 (fun i hi=>.inl hi));obtain⟨y,hy⟩:=QE ((zX (zX s).2).1:Nat);rw[hy];have HY:=QH hy;have q0:=wb.out.cell 0;have q1:=wb.out.cell 1;simp only[QA,QB,QC]at q0 q1;have f0:=wb.out.frozen 0;have f1:=wb.out.frozen 1;have hlA:=wb.out.lt;clear hy hb2 sj qO ia c0;dsimp only;go_wp2_with fail;have lL:=QH ((wb.out.qg 0 (.int .u64 (x:Int))).qg 1 (.int .u64 (y:Int)));have q0:=lL.out.cell 0;have q1:=lL.out.cell 1;simp at q0 q1;have HG:Hid (gv (kS s).1=.agg #[.int .u64 (x:Int),.int .u64 (y:Int)]):=by unfold Hid gv kS;dsimp only;rw[HX.out,HY.out]
 refine bodyPost_ret (v:=.agg #[.int .u64 (x:Int),.int .u64 (y:Int)]) (by simp[results,results133,go_sem,q0,q1]) rfl ?_;have hnew:∀(k:Nat) (u:Value) (W:World),qz (Tc c) w W→qz (Tc c) w (W.setCell ⟨w.heap.size,k,none⟩ u):=fun k u W h=>h.setCell _ _ (.inr (Nat.le_refl _));refine⟨by rw[HG.out],hnew _ _ _ (hnew _ _ _ qA.out),?_⟩;have hr:=jM.out;have hp:=HPL.out;have hc:=kJ.out;have hbb:∀(k:Nat) (u:Value) (W:World),RS W p c b (kS s).2→RS (W.setCell ⟨w.heap.size,k,none⟩ u) p c b (kS s).2:=fun k u W h =>
  ⟨h.blk.of_block (Below.heap_setCell _ _ _ _ (fun e=>by simp at e;omega)),h.ne,h.left.block (Below.heap_setCell _ _ _ _ (fun e=>by simp at e;omega))⟩
 exact hbb _ _ _ (hbb _ _ _ hr)
end Go.Proofs.YtdpbdkacngaemaaGreatDoor.mt
namespace Go.Proofs.YtdpbdkacngaemaaGreatDoor.ib
open _root_.Go.Proofs.Tryz Go Go.RowKit
theorem uE {w:World}{a b:Nat}{t u:TypeId}{x y:Array Value}(h:qf w a t x)(k:qf w b u y)(hn:t≠u):a≠b:=by
 rintro rfl;unfold qf at h k;rw[h]at k;simp only[Option.some.injEq,Obj.cells.injEq]at k;exact hn k.2.1
theorem eG {w:World}{base e size n a:Nat}{v:Value}{xs:List Value}{t:TypeId}{x:Array Value}(h:w.ownsRow base e size v n xs)(k:qf w a t x)(hn:t≠e):∀j,v.ownBlock=some j→j≠a:=by
 intro j hj;rcases h.2 with⟨rfl,_⟩|⟨g,cap,cur,rfl,_,hg,_⟩
 ·cases hj
 ·simp[Value.ownBlock]at hj;subst hj;exact(uE k hg hn).symm
theorem qC {w w':World}{base e size n:Nat}{v:Value}{zs:List Value}(h:w.ownsRow base e size v n zs)(hb:∀k,v.ownBlock=some k→w'.heap[k]?=w.heap[k]?):w'.ownsRow base e size v n zs:=by
 refine⟨h.1,?_⟩;rcases h.2 with h2|⟨g',cap,cur,h1,h2,h3,h4⟩
 ·exact .inl h2
 ·refine .inr ⟨g',cap,cur,h1,h2,(hb g' ?_).trans h3,h4⟩;rw[h1];rfl
theorem nO {w:World}{B B' e size n:Nat}{v:Value}{zs:List Value}(h:w.ownsRow B e size v n zs)(hB:B'≤B):w.ownsRow B' e size v n zs:=by
 refine⟨h.1,?_⟩;rcases h.2 with h2|⟨g',cap,cur,h1,h2,h3⟩
 ·exact .inl h2
 ·exact .inr ⟨g',cap,cur,h1,Nat.le_trans hB h2,h3⟩
theorem xQ {w:World}{base e size n:Nat}{v:Value}{xs:List Value}(h:w.ownsRow base e size v n xs):∃A c,v=.slice A n c:=by
 rcases h.2 with⟨rfl,rfl⟩|⟨g,cap,cur,rfl,_⟩
 ·exact⟨none,0,rfl⟩
 ·exact⟨_,cap,rfl⟩
theorem qw (w:World)(g i:Nat)(u:Value)(k:Nat)(h:k≠g):(w.setCell ⟨g,i,none⟩ u).heap[k]?=w.heap[k]? :=Below.heap_setCell _ _ _ _ h
def Kp (r:TypeId)(w w':World):Prop:=∀j t cs,t≠r→qf w j t cs→qf w' j t cs
theorem Kp.refl(r:TypeId)(w:World):Kp r w w:=fun _ _ _ _ h=>h
theorem Kp.trans{r:TypeId}{a b c:World}(h:Kp r a b)(k:Kp r b c):Kp r a c:=fun j t cs hn hb=>k j t cs hn (h j t cs hn hb)
theorem Kp.of_below{r:TypeId}{w w':World}(h:Below w.heap.size w w'):Kp r w w':=fun _ _ _ _ hb=>hb.below h
theorem Kp.nP{r:TypeId}{w w':World}{c:Nat}{x:Array Value}(h:qz (fun j=>j=c) w w')(hc:qf w c r x):Kp r w w':=fun j t cs hn hb =>
 hb.of_block (h.block j hb.lt (uE hb hc hn))
theorem Kp.vH{r:TypeId}{w:World}{g:Nat}{x:Array Value}(i:Nat)(u:Value)(hg:qf w g r x):Kp r w (w.setCell ⟨g,i,none⟩ u):=fun j t cs hn hb =>
 hb.of_block (qw _ _ _ _ _ (uE hb hg hn))
theorem Kp.row{r:TypeId}{w w':World}{base e size n:Nat}{v:Value}{zs:List Value}(h:Kp r w w')(hn:e≠r)(ho:w.ownsRow base e size v n zs):w'.ownsRow base e size v n zs:=by
 refine⟨ho.1,?_⟩;rcases ho.2 with h2|⟨g',cap,cur,h1,h2,h3,h4⟩
 ·exact .inl h2
 ·exact .inr ⟨g',cap,cur,h1,h2,h g' e cur hn h3,h4⟩
end Go.Proofs.YtdpbdkacngaemaaGreatDoor.ib
namespace Go.Proofs.YtdpbdkacngaemaaGreatDoor.mt
open _root_.Go.Proofs.Tryz Go Go.RowKit ib wi
theorem qmn:(prog.info? 141).map (fun i=>(i.zero,i.size,i.bytes))=some (some (.agg #[.int .u64 0,.int .u64 0,.slice none 0 0,.bool false]),4,48):=by kernel_rfl
abbrev eH:=Sp × Value
def iA (x:eH):List Value:=[.int .u64 (x.1.g.1:Int),.int .u64 (x.1.g.2:Int),x.2,.bool x.1.hid]
def zD:List eH→List Value
 | []=>[]
 | x::r=>iA x++zD r
theorem eI:∀(l r:List eH),zD (l++r)=zD l++zD r
 | [],_=>rfl
 | x::l,r=>by
  show iA x++zD (l++r)=iA x++zD l++zD r;rw[eI l r,List.append_assoc]
theorem qiB(x:eH):zD [x]=iA x:=by simp[zD]
theorem yS:∀l:List eH,(zD l).length=l.length*4
 | []=>rfl
 | x::l=>by simp[zD,iA,yS l];omega
theorem xR:∀(l:List eH) (i:Nat) (h:i<l.length) (j:Nat),j<4→(zD l)[i*4+j]?=(iA l[i])[j]?
 | x::l,0,_,j,hj=>by
  show(iA x++zD l)[0*4+j]?=_;rw[List.getElem?_append_left (by simp[iA];omega),Nat.zero_mul,Nat.zero_add];rfl
 | x::l,i+1,h,j,hj=>by
  have:=xR l i (by simpa using h) j hj;show(iA x++zD l)[(i+1)*4+j]?=_;rw[List.getElem?_append_right (by simp[iA];omega)];rw[show(i+1)*4+j-(iA x).length=i*4+j from by simp[iA];omega];exact this
theorem dE (w:World)(B:Nat):zg w B (.slice none 0 0) []:=World.ownsRow_nil _ _ _ _
def wQ (w:World)(B:Nat)(v:Value)(xs:List eH):Prop:=w.ownsRow B 141 4 v xs.length (zD xs)∧∀x∈xs,zg w B x.2 x.1.qp
theorem wQ.nil(w:World)(B:Nat):wQ w B (.slice none 0 0) []:=⟨World.ownsRow_nil _ _ _ _,fun x hx=>absurd hx (by simp)⟩
section
variable {w w':World} {B:Nat} {v:Value} {xs:List eH} {r:TypeId}
theorem wQ.kp(h:wQ w B v xs)(hk:Kp r w w')(h1:141≠r)(h2:3≠r):wQ w' B v xs :=
 ⟨hk.row h1 h.1,fun x hx=>hk.row h2 (h.2 x hx)⟩
theorem wQ.below(h:wQ w B v xs)(hb:Below w.heap.size w w'):wQ w' B v xs:=h.kp (r:=1000000) (Kp.of_below hb) (by decide) (by decide)
theorem uF {zs:List Int}(h:zg w B v zs)(hk:Kp r w w')(h1:3≠r):zg w' B v zs:=hk.row h1 h
theorem qhw{zs:List Int}(h:zg w B v zs)(hz:∀z∈zs,qD z):∃A c,v=.slice A zs.length c∧js w A zs c:=by
 rcases h.2 with⟨rfl,h0⟩|⟨g,cap,cur,rfl,hg,hh,hcc,hm,hcs,xC⟩
 ·obtain rfl:zs=[]:=List.length_eq_zero_iff.1 h0;exact⟨none,0,rfl,js.none _⟩
 ·obtain⟨A,cc,hv,hi,hb⟩:=zg.view h hz;simp only[Value.slice.injEq]at hv;obtain⟨rfl,_,rfl⟩:=hv;exact⟨_,_,rfl,hi,by omega,fun h=>by cases h⟩
theorem wQ.view(h:wQ w B v xs)(hz:∀x∈xs,∀z∈x.1.qp,qD z)(hg:∀x∈xs,xB x.1.g) :
    ∃A c,v=.slice A (xs.map (·.1)).length c∧jL w A (xs.map (·.1))∧((xs.map (·.1)).length≤c∧(A=none→(xs.map (·.1)).length=0∧c=0)):=by
 obtain⟨h1,h2⟩:=h;rcases h1.2 with⟨rfl,h0⟩|⟨g,cap,cur,rfl,bW,hh,hcc,hm,hcs,xC⟩
 ·obtain rfl:xs=[]:=List.length_eq_zero_iff.1 h0;exact⟨none,0,rfl,jL.nil _ _,Nat.le_refl _,fun _=>⟨rfl,rfl⟩⟩
 ·refine⟨some ⟨g,0,none⟩,cap,by simp,fun i hi=>?_,by simpa using hcc,fun h=>by cases h⟩;have hix:i<xs.length:=by simpa using hi
  have jG:g<w.heap.size:=(Array.getElem?_eq_some_iff.1 hh).1;have key:∀(j:Nat) (u:Value),(zD xs)[j]?=some u→w.cell? ⟨g,j,none⟩=some u:=by
   intro j u hu;rw[cell_of_row w g j cur 141 (0,0) hh];rw[← xC,List.getElem?_take]at hu;split at hu
   ·simpa using hu
   ·cases hu
  obtain⟨A',c',hv,bm⟩:=qhw (h2 _ (List.getElem_mem hix)) (hz _ (List.getElem_mem hix));have e:(xs.map (·.1))[i]=xs[i].1:=by simp
  rw[e];refine⟨g,0,A',c',rfl,jG,?_,?_,?_,?_,bm,hg _ (List.getElem_mem hix)⟩
  ·rw[Nat.zero_add];have:=key (i*4+0) _ (xR xs i hix 0 (by omega));exact this
  ·rw[Nat.zero_add];exact key (i*4+1) _ (xR xs i hix 1 (by omega))
  ·rw[Nat.zero_add];have:=key (i*4+2) _ (xR xs i hix 2 (by omega));rw[← hv];exact this
  ·rw[Nat.zero_add];exact key (i*4+3) _ (xR xs i hix 3 (by omega))
end
end Go.Proofs.YtdpbdkacngaemaaGreatDoor.mt

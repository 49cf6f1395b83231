/- Str, ImPure, WiPure, MtNsec, MtPure, MtMath, MgPure, WiShelf, ShBuilder, Info, WiPut, WiGrown. -/
import Derived.Below
import Derived.Lib.Hide
import Derived.Lib.Strings
import Derived.RowKit
import Derived.Lib.ItoaNum
import Derived.Shelf.Strconv.Itoa0
import Derived.Test.YtdpbdkacngaemaaGreatDoorProg
import Derived.Shelf.Strings.Builder1
import Derived.WalkKit
import Derived.WalkSpells
import Derived.WalkLawsBesides
import Derived.BigCall
set_option linter.unusedVariables false
set_option linter.unusedSimpArgs false
set_option maxHeartbeats 30000000
set_option maxRecDepth 100000
namespace Go.Proofs.YtdpbdkacngaemaaGreatDoor
theorem QH {p : Prop} (h : p) : Go.RowKit.Hid p := h
theorem QA {α : Type _} {l : List α} {i : Nat} : l.toArray[i]? = l[i]? := List.getElem?_toArray
theorem QB {α : Type _} {a : α} {l : List α} : (a :: l)[0]? = some a := List.getElem?_cons_zero
theorem QC {α : Type _} {a : α} {l : List α} {i : Nat} : (a :: l)[i + 1]? = l[i]? := List.getElem?_cons_succ
theorem QE {α : Sort _} (a : α) : ∃ x, a = x := ⟨a, rfl⟩
end Go.Proofs.YtdpbdkacngaemaaGreatDoor
namespace Go.Proofs.YtdpbdkacngaemaaGreatDoor
open _root_.Go.Proofs.Tryz Go Go.RowKit
def str (l:List UInt8):ByteArray:=⟨l.toArray⟩
def bl (s:ByteArray):List UInt8:=s.data.toList
theorem zn (l:List UInt8):bl (str l)=l:=by simp[bl,str]
theorem cJ (s:ByteArray):str (bl s)=s:=by obtain⟨⟨l⟩⟩:=s;rfl
theorem qO (l:List UInt8):(str l).size=l.length:=by simp[str,ByteArray.size]
theorem zg (s:ByteArray):(bl s).length=s.size:=by obtain⟨⟨l⟩⟩:=s;simp[bl,ByteArray.size]
theorem str_inj{l m:List UInt8}(h:str l=str m):l=m:=by
 have:=congrArg bl h
 rwa [zn,zn]at this
theorem gX (s:ByteArray):s.toList=bl s:=Lib.toList_data s
theorem vB (s:ByteArray)(a b:Nat):bl (s.extract a b)=((bl s).drop a).take (b-a):=Lib.extract_data s a b
theorem qmq(s:ByteArray)(k:Nat):bl (s.extract 0 k)=(bl s).take k:=by rw[vB];simp
theorem qep(s:ByteArray)(k:Nat):bl (s.extract k s.size)=(bl s).drop k:=by
 rw[vB,List.take_of_length_le];rw[List.length_drop,zg];omega
theorem qci(s:ByteArray)(l:List UInt8):(s.toList == (str l).toList)=decide (bl s=l):=by
 rw[gX,gX,zn,Bool.eq_iff_iff];simp
theorem ue (k:Nat)(h:k<256):(UInt8.ofNat k).toNat=k:=by
 simp[UInt8.toNat_ofNat'];omega
theorem addr_add(b o j:Nat):(⟨b,o,none⟩:Addr).add j=⟨b,o+j,none⟩:=by
 unfold Addr.add;split
 ·subst_vars;rfl
 ·rfl
theorem qc {w A B:World}(h:Below w.heap.size w A)(g:Below A.heap.size A B):Below w.heap.size w B:=h.trans (g.mono h.size)
theorem zD {w A:World}(h:Below w.heap.size w A)(o:Obj):Below w.heap.size w (A.alloc o):=h.alloc h.size o
def qin (w:World)(e:Ending)(w':World):Prop:=e=.returned (.bool true)∧Below w.heap.size w w'
def oI (r:ByteArray)(w:World)(e:Ending)(w':World):Prop:=e=.returned (.string r)∧Below w.heap.size w w'
end Go.Proofs.YtdpbdkacngaemaaGreatDoor
namespace Go.Proofs.YtdpbdkacngaemaaGreatDoor.im
open _root_.Go.Proofs.Tryz Go Go.RowKit
def pl (l:List Int)(i:Nat):Int:=l.getD i 0
theorem aO {l:List Int}{i:Nat}(h:i<l.length):pl l i=l[i]:=by simp[pl,List.getD,h]
theorem cK {l:List Int}{i:Nat}(h:l.length≤i):pl l i=0:=by simp[pl,List.getD,h]
def wu (n z:Int):Bool:=decide (z≠0)&&(decide (z<193) || decide (n≤z))
def wH (l:List Int)(i k:Nat):Bool:=(List.range k).any fun j=>decide (pl l i=pl l j)
def yi (l:List Int)(i:Nat):Bool:=(List.range i).any fun j=>decide (pl l j≠0)&&wH l j j
def zA (l:List Int)(blocks n:Int):Int :=
 if blocks<1∨8<blocks∨(l.length:Int)≠blocks then 2 else if l.any (wu n)then 2 else if yi l l.length then 16 else 0
def tY (l:List Int)(k s:Int):List Int × Int:=if k<0∨(l.length:Int)≤k∨s<0 then([],2)else(l.set k.toNat s,0)
theorem ag (l:List Int)(i:Nat):yi l (i+1)=(yi l i || (decide (pl l i≠0)&&wH l i i)):=by
 unfold yi;rw[List.range_succ,List.any_append,List.any_cons,List.any_nil,Bool.or_false]
theorem qcj{l:List Int}{i j m:Nat}(hi:i<m)(hj:j<i)(h0:pl l i≠0)(h:pl l i=pl l j):yi l m=true:=by
 unfold yi wH;rw[List.any_eq_true];refine⟨i,List.mem_range.2 hi,?_⟩;rw[decide_eq_true h0,Bool.true_and,List.any_eq_true];exact⟨j,List.mem_range.2 hj,decide_eq_true h⟩
theorem qio{l:List Int}{k:Nat}(h:k<l.length)(p:Int→Bool):(l.take (k+1)).any p=((l.take k).any p || p l[k]):=by
 rw[List.take_succ_eq_append_getElem h,List.any_append,List.any_cons,List.any_nil,Bool.or_false]
theorem qql{l:List Int}{k:Nat}(h:k<l.length){p:Int→Bool}(hp:p l[k]=true):l.any p=true :=
 List.any_eq_true.2 ⟨_,List.getElem_mem h,hp⟩
end Go.Proofs.YtdpbdkacngaemaaGreatDoor.im
namespace Go.Proofs.YtdpbdkacngaemaaGreatDoor.wi
open _root_.Go.Proofs.Tryz Go
def xe:Nat→Nat→List UInt8
 | 0,_=>[]
 | f+1,n=>if n=0 then[]else xe f (n/256)++[UInt8.ofNat (n%256)]
def zv (n:Nat):List UInt8:=xe 8 n
def zk (n:Nat):List UInt8:=UInt8.ofNat (zv n).length::zv n
def dP (t:List UInt8):List UInt8:=zk t.length++t
def iq:Nat→List UInt8→Nat
 | a,[]=>a
 | a,b::l=>iq (a*256+b.toNat) l
def val (l:List UInt8):Nat:=iq 0 l
theorem ah (f:Nat):xe f 0=[]:=by cases f <;> simp[xe]
theorem yj:∀(f n:Nat),n<256 ^ f→xe (f+1) n=xe f n
 | 0,n,h=>by
  have:n=0:=by simpa using h
  subst this;simp[xe]
 | f+1,n,h=>by
  by_cases h0:n=0
  ·subst h0;simp[xe]
  ·have h1:n/256<256 ^ f:=by
      rw[Nat.pow_succ]at h;exact(Nat.div_lt_iff_lt_mul (by omega)).2 h
   rw[xe,if_neg h0,yj f _ h1,xe,if_neg h0]
theorem qfx:zv 0=[]:=rfl
theorem qip(n:Nat)(h0:n≠0)(h:n<18446744073709551616):zv n=zv (n/256)++[UInt8.ofNat (n%256)]:=by
 have h1:n<256 ^ 8:=by simpa using h
 have e:zv n=xe 9 n:=(yj 8 n h1).symm;rw[e,xe,if_neg h0];rfl
theorem cM:∀(f n:Nat),(xe f n).length≤f
 | 0,_=>by simp[xe]
 | f+1,n=>by
  unfold xe;split
  ·simp
  ·have:=cM f (n/256);simp;omega
theorem jh (n:Nat):(zv n).length≤8:=cM 8 n
theorem eY:Lib.bitLen 0=0:=by simp[Lib.bitLen,Lib.bitLenAux_zero]
theorem qck(n:Nat)(h0:n≠0)(h:n<18446744073709551616):1≤Lib.bitLen n :=
 (Lib.bitLenAux_bounds 64 n (by simpa using h) h0).1
theorem oJ:∀(f n:Nat),f≤8→n<256 ^ f→(Lib.bitLen n+7)/8=(xe f n).length
 | 0,n,_,h=>by
  have:n=0:=by simpa using h
  subst this;simp[xe,eY]
 | f+1,n,hf,h=>by
  by_cases h0:n=0
  ·subst h0;simp[xe,eY]
  ·have h1:n/256<256 ^ f:=by
      rw[Nat.pow_succ]at h;exact(Nat.div_lt_iff_lt_mul (by omega)).2 h
   have h64:n<18446744073709551616:=by
    have:256 ^ (f+1)≤256 ^ 8:=Nat.pow_le_pow_right (by omega) hf;have e:(256:Nat) ^ 8=18446744073709551616:=by decide
    omega
   have ih:=oJ f (n/256) (by omega) h1;rw[xe,if_neg h0];simp only[List.length_append,List.length_cons,List.length_nil];by_cases hb:256≤n
   ·rw[Lib.bitLen_shift8 n hb h64];omega
   ·have e:n/256=0:=by omega
    rw[e,ah];have a:=qck n h0 h64;have b:=Lib.bitLen_le n 8 (by omega) (by omega);simp;omega
theorem count_eq(n:Nat)(h:n<18446744073709551616):(Lib.bitLen n+7)/8=(zv n).length :=
 oJ 8 n (by omega) (by simpa using h)
theorem eZ:∀(a:Nat) (l m:List UInt8),iq a (l++m)=iq (iq a l) m
 | _,[],_=>rfl
 | a,b::l,m=>by simp[iq,eZ]
theorem iV (l:List UInt8)(b:UInt8):val (l++[b])=val l*256+b.toNat:=by
 simp[val,eZ,iq]
theorem cN:∀(f n:Nat),n<256 ^ f→val (xe f n)=n
 | 0,n,h=>by
  have:n=0:=by simpa using h
  subst this;rfl
 | f+1,n,h=>by
  by_cases h0:n=0
  ·subst h0;simp[xe,val,iq]
  ·have h1:n/256<256 ^ f:=by
      rw[Nat.pow_succ]at h;exact(Nat.div_lt_iff_lt_mul (by omega)).2 h
   rw[xe,if_neg h0,iV,cN f _ h1];have:(UInt8.ofNat (n%256)).toNat=n%256:=by
    simp[UInt8.toNat_ofNat']
   rw[this];omega
theorem qiq(n:Nat)(h:n<18446744073709551616):val (zv n)=n:=cN 8 n (by simpa using h)
theorem qcl(l:List UInt8):val l<256 ^ l.length:=by
 have key:∀(l:List UInt8) (a:Nat),iq a l<(a+1)*256 ^ l.length:=by
  intro l
  induction l with
  | nil=>intro a;simp[iq]
  | cons b l ih =>
   intro a;have h:=ih (a*256+b.toNat);have hb:b.toNat<256:=b.toNat_lt;simp only[iq,List.length_cons,Nat.pow_succ]
   calc iq (a*256+b.toNat) l<(a*256+b.toNat+1)*256 ^ l.length:=h
    _≤((a+1)*256)*256 ^ l.length:=Nat.mul_le_mul_right _ (by omega)
    _=(a+1)*(256 ^ l.length*256):=by rw[Nat.mul_assoc,Nat.mul_comm 256]
 have:=key l 0;simpa[val]using this
theorem qir(l:List UInt8)(h:l.length≤8):val l<18446744073709551616:=by
 have a:=qcl l;have b:256 ^ l.length≤256 ^ 8:=Nat.pow_le_pow_right (by omega) h;have e:(256:Nat) ^ 8=18446744073709551616:=by decide
 omega
theorem qfy:∀(l:List UInt8) (f:Nat),l.length≤f→(∀b m,l=b::m→b≠0)→xe f (val l)=l:=by
 intro l;have key:∀(k:Nat) (l:List UInt8),l.length=k→∀f,l.length≤f→(∀b m,l=b::m→b≠0)→xe f (val l)=l∧(l≠[]→val l≠0):=by
  intro k
  induction k with
  | zero =>
   intro l hl f _ _;have:l=[]:=List.length_eq_zero_iff.1 hl;subst this;exact⟨ah f,fun h=>absurd rfl h⟩
  | succ k ih =>
   intro l hl f hf hz;have hne:l≠[]:=by intro h;subst h;simp at hl
   have hs:l=l.dropLast++[l.getLast hne]:=(List.dropLast_concat_getLast hne).symm;generalize l.dropLast=p at hs;generalize l.getLast hne=b at hs;subst hs;have hp:p.length=k:=by simpa using hl
   obtain⟨f,rfl⟩:∃g,f=g+1:=⟨f-1,by simp at hf;omega⟩;have ihp:=ih p hp f (by simp at hf;omega) (fun c m h=>hz c (m++[b]) (by rw[h];rfl));have hb:b.toNat<256:=b.toNat_lt;rw[iV];have hnz:val p*256+b.toNat≠0:=by
    by_cases hpe:p=[]
    ·subst hpe;have hb0:=hz b [] rfl;have:b.toNat≠0:=fun h=>hb0 (by apply UInt8.toNat_inj.1;simpa using h);omega
    ·have:=ihp.2 hpe;omega
   refine⟨?_,fun _=>hnz⟩;rw[xe,if_neg hnz,show(val p*256+b.toNat)/256=val p by omega,ihp.1,show(val p*256+b.toNat)%256=b.toNat by omega];simp
 intro f hf hz;exact(key l.length l rfl f hf hz).1
theorem qis(l:List UInt8)(hl:l.length≤8)(hz:∀b m,l=b::m→b≠0):zv (val l)=l:=qfy l 8 hl hz
theorem qfz(n:Nat)(h:n<18446744073709551616)(b:UInt8)(m:List UInt8)(e:zv n=b::m):b≠0:=by
 have key:∀(f n:Nat),n<256 ^ f→∀b m,xe f n=b::m→b≠0:=by
  intro f
  induction f with
  | zero=>intro n _ b m e;simp[xe]at e
  | succ f ih =>
   intro n hn b m e;by_cases h0:n=0
   ·subst h0;simp[xe]at e
   ·have h1:n/256<256 ^ f:=by
       rw[Nat.pow_succ]at hn;exact(Nat.div_lt_iff_lt_mul (by omega)).2 hn
    rw[xe,if_neg h0]at e;by_cases hq:n/256=0
    ·rw[hq,ah]at e;simp at e;intro hb;have:(UInt8.ofNat (n%256)).toNat=0:=by rw[e.1,hb];rfl
     simp[UInt8.toNat_ofNat']at this;omega
    ·cases hd:xe f (n/256)with
     | nil =>
      have v:=cN f _ h1;rw[hd]at v;exact absurd v.symm hq
     | cons c r =>
      rw[hd]at e;simp at e;rw[← e.1];exact ih _ h1 c r hd
 exact key 8 n (by simpa using h) b m e
def rdNum (l:List UInt8):Option (Nat × List UInt8) :=
 match l with
 | []=>none
 | k::r =>
  if 8<k.toNat then none
  else if r.length<k.toNat then none
  else if (r.take k.toNat).head? = some 0 then none
  else some (val (r.take k.toNat),r.drop k.toNat)
def yJ (l:List UInt8):Option (List UInt8 × List UInt8) :=
 match rdNum l with
 | none=>none
 | some (n,r)=>if r.length<n then none else some (r.take n,r.drop n)
theorem kq (n:Nat)(h:n<18446744073709551616)(r:List UInt8):rdNum (zk n++r)=some (n,r):=by
 have hl:=jh n;have e:(UInt8.ofNat (zv n).length).toNat=(zv n).length:=ue _ (by omega);have ht:(zv n++r).take (zv n).length=zv n:=by simp
 have hh:¬ (zv n).head? = some 0:=by
  intro hc;cases hd:zv n with
  | nil=>rw[hd]at hc;simp at hc
  | cons b m =>
   rw[hd]at hc;simp at hc;exact qfz n h b m hd hc
 show rdNum (UInt8.ofNat (zv n).length::(zv n++r))=_;unfold rdNum;simp only[e];rw[if_neg (by omega),if_neg (by simp),ht,if_neg hh,qiq n h];simp
theorem iW (t:List UInt8)(h:t.length<18446744073709551616)(r:List UInt8):yJ (dP t++r)=some (t,r):=by
 unfold yJ dP;rw[List.append_assoc,kq _ h];simp
theorem wI (l:List UInt8)(n:Nat)(r:List UInt8)(h:rdNum l=some (n,r)):l=zk n++r∧n<18446744073709551616:=by
 cases l with
 | nil=>simp[rdNum]at h
 | cons k q =>
  unfold rdNum at h;by_cases h1:8<k.toNat
  ·simp[h1]at h
  by_cases h2:q.length<k.toNat
  ·simp[h1,h2]at h
  by_cases h3:(q.take k.toNat).head? = some 0
  ·simp[h1,h2,h3]at h
  ·simp only[h1,h2,h3,if_false,Option.some.injEq,Prod.mk.injEq]at h;obtain⟨rfl,rfl⟩:=h;have hl:(q.take k.toNat).length=k.toNat:=by simp;omega
   have hz:∀b m,q.take k.toNat=b::m→b≠0:=by
    intro b m e hb;apply h3;rw[e,hb];rfl
   have hd:=qis (q.take k.toNat) (by omega) hz;refine⟨?_,qir _ (by omega)⟩;unfold zk;rw[hd,hl];have ek:UInt8.ofNat k.toNat=k:=by simp
   rw[ek];simp
def flat (ps:List ByteArray):List UInt8:=(ps.map bl).flatten
theorem qf0(ps:List ByteArray)(k:Nat)(h:k<ps.length):flat (ps.take (k+1))=flat (ps.take k)++bl ps[k]:=by
 unfold flat;rw[List.take_succ_eq_append_getElem h,List.map_append,List.flatten_append];simp
theorem nO (ps:List ByteArray)(k:Nat):(flat (ps.take k)).length≤(flat ps).length:=by
 have:flat ps=flat (ps.take k)++flat (ps.drop k):=by
  unfold flat;rw[← List.flatten_append,← List.map_append,List.take_append_drop]
 rw[this];simp
end Go.Proofs.YtdpbdkacngaemaaGreatDoor.wi
namespace Go.Proofs.YtdpbdkacngaemaaGreatDoor.mt
def nsec (n:Nat):Nat:=(n+37)/32
end Go.Proofs.YtdpbdkacngaemaaGreatDoor.mt
namespace Go.Proofs.YtdpbdkacngaemaaGreatDoor.mt
open _root_.Go.Proofs.Tryz Go Go.RowKit im wi
abbrev Gd:=Nat × Nat
def zV (g:Gd):Prop:=g.1<18446744073709551616∧g.2<18446744073709551616
structure Sp where
 g:Gd
 qp:List Int
 hid:Bool
 deriving DecidableEq
structure Tk where
 base:Gd
 target:Gd
 next:Int
 all:Int
 qp:List Int
 deriving DecidableEq
structure Mt where
 live:List Int
 qd:List Sp
 tok:Tk
 deriving DecidableEq
def yg:Tk:=⟨(0,0),(0,0),0,0,[]⟩
def mt0:Mt:=⟨[],[],yg⟩
def above (a b:Gd):Bool:=decide (b.1<a.1) || (decide (a.1=b.1)&&decide (b.2<a.2))
def xN (b n:Int):Gd→List Sp→Int × Gd
 | last,[]=>(0,last)
 | last,s::r=>if above s.g last=true then(if zA s.qp b n=0 then xN b n s.g r else(zA s.qp b n,s.g))else(2,last)
def rk (t:Tk):Bool:=decide (t.base=(0,0))&&decide (t.next=0)&&decide (t.all=0)&&decide (t.qp=[])
def wJ (t:Tk)(last:Gd)(b:Int):Bool:=!decide (t.base=last) || !above t.target last || decide (t.next<1) || decide (t.all≤t.next) || decide (b<t.all)
def kz (b n:Int)(last:Gd)(t:Tk):Int :=
 if t.target=(0,0)then(if rk t=true then 0 else 2)else if wJ t last b=true then 2 else zA t.qp b n
def xf (m:Mt)(b n:Int):Int :=
 if zA m.live b n≠0 then zA m.live b n
 else if 20<m.qd.length then 3
 else if (xN b n (0,0) m.qd).1≠0 then(xN b n (0,0) m.qd).1
 else kz b n (xN b n (0,0) m.qd).2 m.tok
def xz (z:Int):List UInt8:=zk z.toNat
def zi (l:List Int):List UInt8:=l.flatMap xz
def jn (g:Gd):List UInt8:=zk g.1++zk g.2
def spB (s:Sp):List UInt8:=jn s.g++(zk (if s.hid then 1 else 0)++zi s.qp)
def yP (l:List Sp):List UInt8:=l.flatMap spB
def tkB (t:Tk):List UInt8:=if t.target=(0,0)then zk 0 else zk 1++(jn t.base++(jn t.target++(xz t.next++(xz t.all++zi t.qp))))
def zq (m:Mt):List UInt8:=zk m.live.length++(zi m.live++(zk m.qd.length++(yP m.qd++tkB m.tok)))
def wx (m:Mt):List UInt8 × Int :=
 if xf m m.live.length 1024≠0 then([],xf m m.live.length 1024)else if 48<nsec (zq m).length then([],3)else(zq m,0)
abbrev St:=Option (List UInt8)
def zP (s:St):Nat × St:=match s with
 | none=>(0,none)
 | some l=>match rdNum l with
  | none=>(0,none)
  | some (n,r)=>(n,some r)
def kA (s:St):Nat × St:=(min (zP s).1 1048576,(zP s).2)
def fg:Nat→St→List Int × St
 | 0,s=>([],s)
 | n+1,s=>(((kA s).1:Int)::(fg n (kA s).2).1,(fg n (kA s).2).2)
def jS (s:St):Gd × St:=(((zP s).1,(zP (zP s).2).1),(zP (zP s).2).2)
def spS (b:Nat)(s:St):Sp × St :=
 let g:=jS s;let h:=kA g.2;let i:=fg b h.2
 (⟨g.1,i.1,decide (h.1=1)⟩,i.2)
def rp (b:Nat):Nat→St→List Sp × St
 | 0,s=>([],s)
 | n+1,s=>((spS b s).1::(rp b n (spS b s).2).1,(rp b n (spS b s).2).2)
def tkS (b:Nat)(s:St):Tk × St :=
 let f:=kA s
 if f.1=1 then
  let x:=jS f.2;let y:=jS x.2;let n:=kA y.2;let a:=kA n.2;let i:=fg b a.2
  (⟨x.1,y.1,n.1,a.1,i.1⟩,i.2)
 else(yg,f.2)
def mS (s:St):Mt × St :=
 let k:=kA s;let b:=min k.1 100;let l:=fg b k.2;let c:=kA l.2;let ss:=rp b (min c.1 100) c.2;let t:=tkS b ss.2
 (⟨l.1,ss.1,t.1⟩,t.2)
def iX (s:List UInt8):Mt × Int:=if wx (mS (some s)).1=(s,0)then((mS (some s)).1,0)else(mt0,4)
theorem ym (n:Nat)(h:n<18446744073709551616)(r:List UInt8):zP (some (zk n++r))=(n,some r):=by
 unfold zP;simp only[kq n h]
theorem yn (n:Nat)(h:n≤1048576)(r:List UInt8):kA (some (zk n++r))=(n,some r):=by
 unfold kA;rw[ym n (by omega)];simp only[Nat.min_eq_left h]
def ya (l:List Int):Prop:=∀z∈l,0≤z∧z≤1048576
theorem gY:∀(l:List Int) (_:ya l) (r:List UInt8),fg l.length (some (zi l++r))=(l,some r)
 | [],_,r=>rfl
 | z::l,h,r=>by
  have hz:=h z (by simp);have e:zi (z::l)++r=zk z.toNat++(zi l++r):=by simp[zi,xz]
  show fg (l.length+1) (some (zi (z::l)++r))=_;rw[e];unfold fg;rw[yn _ (by omega)];simp only;rw[gY l (fun x hx=>h x (by simp[hx])) r];simp only[Int.toNat_of_nonneg hz.1]
theorem uf (g:Gd)(h:zV g)(r:List UInt8):jS (some (jn g++r))=(g,some r):=by
 unfold jS jn;rw[List.append_assoc,ym _ h.1];simp only;rw[ym _ h.2]
def qqn (b:Nat)(s:Sp):Prop:=zV s.g∧s.qp.length=b∧ya s.qp
theorem qmr(b:Nat)(s:Sp)(h:qqn b s)(r:List UInt8):spS b (some (spB s++r))=(s,some r):=by
 obtain⟨h1,h2,h3⟩:=h;unfold spS spB;rw[List.append_assoc,uf _ h1];simp only;rw[List.append_assoc,yn _ (by split <;> omega)];simp only;rw[← h2,gY _ h3];cases s with|mk g qp hid=>cases hid <;> rfl
theorem tZ (b:Nat):∀(l:List Sp) (_:∀s∈l,qqn b s) (r:List UInt8),rp b l.length (some (yP l++r))=(l,some r)
 | [],_,r=>rfl
 | s::l,h,r=>by
  have e:yP (s::l)++r=spB s++(yP l++r):=by simp[yP]
  show rp b (l.length+1) (some (yP (s::l)++r))=_;rw[e];unfold rp;rw[qmr b s (h s (by simp))];simp only;rw[tZ b l (fun x hx=>h x (by simp[hx])) r]
def aP (b:Nat)(t:Tk):Prop:=if t.target=(0,0)then t=yg else zV t.base∧zV t.target∧(0≤t.next∧t.next≤1048576)∧(0≤t.all∧t.all≤1048576)∧t.qp.length=b∧ya t.qp
theorem qms(b:Nat)(t:Tk)(h:aP b t)(r:List UInt8):tkS b (some (tkB t++r))=(t,some r):=by
 unfold aP at h;unfold tkB;by_cases h0:t.target=(0,0)
 ·rw[if_pos h0]at h ⊢;unfold tkS;rw[yn 0 (by omega),h];rfl
 ·rw[if_neg h0]at h ⊢;obtain⟨h1,h2,h3,h4,h5,h6⟩:=h;unfold tkS;simp only[List.append_assoc];rw[yn 1 (by omega)];simp only[if_true];rw[uf _ h1];simp only;rw[uf _ h2];simp only;unfold xz;rw[yn _ (by omega)];simp only;rw[yn _ (by omega)];simp only;rw[← h5,gY _ h6];simp only[Int.toNat_of_nonneg h3.1,Int.toNat_of_nonneg h4.1]
structure quf(m:Mt):Prop where
 b:m.live.length≤100
 live:ya m.live
 few:m.qd.length≤100
 qd:∀s∈m.qd,qqn m.live.length s
 tok:aP m.live.length m.tok
theorem qqo(m:Mt)(h:quf m)(r:List UInt8):mS (some (zq m++r))=(m,some r):=by
 have hb:=h.b;have hf:=h.few;unfold mS zq;simp only[List.append_assoc];rw[yn _ (by omega)];simp only[Nat.min_eq_left hb];rw[gY _ h.live];simp only;rw[yn _ (by omega)];simp only[Nat.min_eq_left hf];rw[tZ _ _ h.qd];simp only;rw[qms _ _ h.tok]
theorem jv {l:List Int}{b n:Int}(h:zA l b n=0):1≤b∧b≤8∧(l.length:Int)=b∧∀z∈l,z=0∨(193≤z∧z<n):=by
 unfold zA at h;split at h
 ·cases h
 ·rename_i h1;split at h
  ·cases h
  ·rename_i h2;refine⟨by omega,by omega,by omega,fun z hz=>?_⟩;have hb:wu n z=false:=by
    cases hc:wu n z with
    | false=>rfl
    | true=>exact absurd (List.any_eq_true.2 ⟨z,hz,hc⟩) h2
   unfold wu at hb;by_cases hz0:z=0
   ·exact .inl hz0
   ·rw[decide_eq_true hz0,Bool.true_and]at hb;simp only[Bool.or_eq_false_iff,decide_eq_false_iff_not]at hb;exact .inr (by omega)
theorem rq {l:List Int}{b:Int}(h:zA l b 1024=0):ya l:=fun z hz=>by
 rcases(jv h).2.2.2 z hz with h|h <;> omega
structure mB(m:Mt):Prop where
 qd:∀s∈m.qd,zV s.g
 base:zV m.tok.base
 target:zV m.tok.target
theorem iY {b n:Int}:∀ {l:List Sp} {last:Gd},(xN b n last l).1=0→∀s∈l,zA s.qp b n=0
 | [],_,_,s,hs=>absurd hs (by simp)
 | x::r,last,h,s,hs=>by
  unfold xN at h;split at h
  ·split at h
   ·rename_i h2;rcases List.mem_cons.1 hs with rfl|hs
    ·exact h2
    ·exact iY h s hs
   ·rename_i h2;exact absurd h h2
  ·cases h
theorem wK {m:Mt}(hB:mB m)(h:xf m m.live.length 1024=0):quf m∧1≤m.live.length∧m.live.length≤8∧m.qd.length≤20:=by
 unfold xf at h;split at h
 ·rename_i h1;exact absurd h h1
 rename_i h1;have h1':zA m.live m.live.length 1024=0:=Classical.byContradiction h1;split at h
 ·cases h
 rename_i h2;split at h
 ·rename_i h3;exact absurd h h3
 rename_i h3;have h3':=Classical.byContradiction h3;have hl:=jv h1';refine⟨⟨by omega,rq h1',by omega,fun s hs=>?_,?_⟩,by omega,by omega,by omega⟩
 ·have:=iY h3' s hs;have hi:=jv this;exact⟨hB.qd s hs,by omega,rq this⟩
 ·unfold aP;unfold kz at h;split at h
  ·rename_i h4;rw[if_pos h4];split at h
   ·rename_i h5;unfold rk at h5;simp only[Bool.and_eq_true,decide_eq_true_eq]at h5;obtain⟨⟨⟨e1,e2⟩,e3⟩,e4⟩:=h5;generalize m.tok=t at *;cases t;simp only at e1 e2 e3 e4 h4;subst e1 e2 e3 e4 h4;rfl
   ·cases h
  ·rename_i h4;rw[if_neg h4];split at h
   ·cases h
   ·rename_i h5;unfold wJ at h5;simp only[Bool.or_eq_true,not_or,Bool.not_eq_true,decide_eq_true_eq]at h5;obtain⟨⟨⟨⟨_,_⟩,e3⟩,e4⟩,e5⟩:=h5;have hi:=jv h;exact⟨hB.base,hB.target,by omega,by omega,by omega,rq h⟩
theorem qit{m:Mt}{s:List UInt8}(h:wx m=(s,0)):xf m m.live.length 1024=0∧s=zq m∧nsec s.length≤48:=by
 unfold wx at h;split at h
 ·rename_i h1;exact absurd (Prod.mk.inj h).2 h1
 ·rename_i h1;split at h
  ·cases (Prod.mk.inj h).2
  ·rename_i h2;have:=(Prod.mk.inj h).1;exact⟨Classical.byContradiction h1,this.symm,by rw[← this];omega⟩
theorem qiu{m:Mt}{s:List UInt8}(hB:mB m)(h:wx m=(s,0))(r:List UInt8):mS (some (s++r))=(m,some r):=by
 obtain⟨h1,rfl,_⟩:=qit h;exact qqo m (wK hB h1).1 r
theorem qaa{m:Mt}{s:List UInt8}(hB:mB m)(h:wx m=(s,0)):iX s=(m,0):=by
 have:=qiu hB h [];rw[List.append_nil]at this;unfold iX;rw[this,if_pos h]
theorem rr {m:Mt}{s:List UInt8}(h:iX s=(m,0)):wx m=(s,0)∧m=(mS (some s)).1:=by
 unfold iX at h;split at h
 ·rename_i h1;have:=(Prod.mk.inj h).1;rw[this]at h1;exact⟨h1,this.symm⟩
 ·cases (Prod.mk.inj h).2
theorem qmt(s:List UInt8):(∃m,iX s=(m,0))∨iX s=(mt0,4):=by
 unfold iX;split
 ·exact .inl ⟨_,rfl⟩
 ·exact .inr rfl
theorem ru (s:St):(zP s).1<18446744073709551616:=by
 unfold zP;split
 ·decide
 ·split
  ·decide
  ·rename_i l n r h;exact(wI _ _ _ h).2
theorem oK (s:St):zV (jS s).1:=⟨ru _,ru _⟩
theorem qiv(b:Nat):∀(n:Nat) (s:St),∀x∈(rp b n s).1,zV x.g
 | 0,_,x,hx=>absurd hx (by simp[rp])
 | n+1,s,x,hx=>by
  unfold rp at hx;simp only[List.mem_cons]at hx;rcases hx with rfl|hx
  ·exact oK _
  ·exact qiv b n _ x hx
theorem aQ:zV (0,0):=⟨by decide,by decide⟩
theorem qoU(b:Nat)(s:St):zV (tkS b s).1.base∧zV (tkS b s).1.target:=by
 unfold tkS;dsimp only;split
 ·exact⟨oK _,oK _⟩
 ·exact⟨aQ,aQ⟩
theorem qzx(s:St):mB (mS s).1:=⟨fun x hx=>qiv _ _ _ x hx,(qoU _ _).1,(qoU _ _).2⟩
theorem qug{m:Mt}{s:List UInt8}(h:iX s=(m,0)):mB m:=by
 rw[(rr h).2];exact qzx _
end Go.Proofs.YtdpbdkacngaemaaGreatDoor.mt
namespace Go.Proofs.YtdpbdkacngaemaaGreatDoor.mt.pg
open _root_.Go.Proofs.Tryz Go Go.RowKit im wi mt
def jP (k:Nat)(s:St):Nat × St:=(min (zP s).1 (k+1),(zP s).2)
def wy:Nat→St→List Int × St
 | 0,s=>([],s)
 | n+1,s=>(((jP 1024 s).1:Int)::(wy n (jP 1024 s).2).1,(wy n (jP 1024 s).2).2)
def iZ (b:Nat)(s:St):Sp × St:=(⟨(jS s).1,(wy b (zP (jS s).2).2).1,decide ((zP (jS s).2).1=1)⟩,(wy b (zP (jS s).2).2).2)
def kB (b:Nat):Nat→St→List Sp × St
 | 0,s=>([],s)
 | n+1,s=>((iZ b s).1::(kB b n (iZ b s).2).1,(kB b n (iZ b s).2).2)
def nP (b:Nat)(s:St):Tk × St :=
 (⟨(jS s).1,(jS (jS s).2).1,(jP 8 (jS (jS s).2).2).1,(jP 8 (jP 8 (jS (jS s).2).2).2).1,(wy b (jP 8 (jP 8 (jS (jS s).2).2).2).2).1⟩,(wy b (jP 8 (jP 8 (jS (jS s).2).2).2).2).2)
def fh (s:St):List Int × St:=wy (jP 8 s).1 (jP 8 s).2
def qcm (s:St):List Sp × St:=kB (jP 8 s).1 (jP 20 (fh s).2).1 (jP 20 (fh s).2).2
def mP (s:St):Mt:=⟨(fh s).1,(qcm s).1,if (zP (qcm s).2).1=1 then(nP (jP 8 s).1 (zP (qcm s).2).2).1 else yg⟩
theorem cO (k:Nat)(s:St):(jP k s).1≤k+1:=by unfold jP;dsimp only;omega
theorem ke:∀(n:Nat) (s:St),(wy n s).1.length=n
 | 0,_=>rfl
 | n+1,s=>by simp[wy,ke n]
theorem ry:∀(n:Nat) (s:St),ya (wy n s).1
 | 0,_=>fun z hz=>absurd hz (by simp[wy])
 | n+1,s=>fun z hz=>by
  have h:=cO 1024 s;simp only[wy,List.mem_cons]at hz;rcases hz with rfl|hz
  ·omega
  ·exact ry n _ z hz
theorem qab:∀(n:Nat) (s:St),wy (n+1) s=((wy n s).1++[((jP 1024 (wy n s).2).1:Int)],(jP 1024 (wy n s).2).2)
 | 0,s=>rfl
 | n+1,s=>by
  have ih:=qab n (jP 1024 s).2;show((((jP 1024 s).1:Int)::(wy (n+1) (jP 1024 s).2).1,(wy (n+1) (jP 1024 s).2).2):List Int × St)=_;rw[ih];rfl
theorem oL (b:Nat):∀(n:Nat) (s:St),kB b (n+1) s=((kB b n s).1++[(iZ b (kB b n s).2).1],(iZ b (kB b n s).2).2)
 | 0,s=>rfl
 | n+1,s=>by
  have ih:=oL b n (iZ b s).2;show(((iZ b s).1::(kB b (n+1) (iZ b s).2).1,(kB b (n+1) (iZ b s).2).2):List Sp × St)=_;rw[ih];rfl
theorem qiw(b:Nat)(s:St):ya (iZ b s).1.qp∧(iZ b s).1.qp.length=b∧zV (iZ b s).1.g:=⟨ry _ _,ke _ _,oK _⟩
theorem rz (b:Nat):∀(n:Nat) (s:St),∀x∈(kB b n s).1,ya x.qp∧x.qp.length=b∧zV x.g
 | 0,_,x,hx=>absurd hx (by simp[kB])
 | n+1,s,x,hx=>by
  unfold kB at hx;simp only[List.mem_cons]at hx;rcases hx with rfl|hx
  ·exact qiw b s
  ·exact rz b n _ x hx
theorem aR (k n:Nat)(h:n≤k)(hk:k≤2000)(r:List UInt8):jP k (some (zk n++r))=(n,some r):=by
 unfold jP;rw[ym n (by omega)];simp only[Nat.min_eq_left (show n≤k+1 by omega)]
def tight (l:List Int):Prop:=∀z∈l,0≤z∧z≤1024
theorem iE:∀(l:List Int) (_:tight l) (r:List UInt8),wy l.length (some (zi l++r))=(l,some r)
 | [],_,r=>rfl
 | z::l,h,r=>by
  have hz:=h z (by simp);have e:zi (z::l)++r=zk z.toNat++(zi l++r):=by simp[zi,xz]
  show wy (l.length+1) (some (zi (z::l)++r))=_;rw[e];unfold wy;rw[aR 1024 _ (by omega) (by omega)];simp only;rw[iE l (fun x hx=>h x (by simp[hx])) r];simp only[Int.toNat_of_nonneg hz.1]
theorem qmu(b:Nat)(s:Sp)(h1:zV s.g)(h2:s.qp.length=b)(h3:tight s.qp)(r:List UInt8):iZ b (some (spB s++r))=(s,some r):=by
 unfold iZ spB;rw[List.append_assoc,uf _ h1];simp only;rw[List.append_assoc,ym _ (by split <;> omega)];simp only;rw[← h2,iE _ h3];cases s with|mk g qp hid=>cases hid <;> rfl
theorem qac(b:Nat):∀(l:List Sp) (_:∀s∈l,zV s.g∧s.qp.length=b∧tight s.qp) (r:List UInt8),kB b l.length (some (yP l++r))=(l,some r)
 | [],_,r=>rfl
 | s::l,h,r=>by
  have e:yP (s::l)++r=spB s++(yP l++r):=by simp[yP]
  have hs:=h s (by simp);show kB b (l.length+1) (some (yP (s::l)++r))=_;rw[e];unfold kB;rw[qmu b s hs.1 hs.2.1 hs.2.2];simp only;rw[qac b l (fun x hx=>h x (by simp[hx])) r]
structure qoV(m:Mt):Prop where
 b:m.live.length≤8
 live:tight m.live
 few:m.qd.length≤20
 qd:∀s∈m.qd,zV s.g∧s.qp.length=m.live.length∧tight s.qp
 tok:if m.tok.target=(0,0)then m.tok=yg else zV m.tok.base∧zV m.tok.target∧(0≤m.tok.next∧m.tok.next≤8)∧(0≤m.tok.all∧m.tok.all≤8)∧m.tok.qp.length=m.live.length∧tight m.tok.qp
theorem qmv(b:Nat)(t:Tk)(h:zV t.base∧zV t.target∧(0≤t.next∧t.next≤8)∧(0≤t.all∧t.all≤8)∧t.qp.length=b∧tight t.qp)(r:List UInt8) :
    nP b (some ((jn t.base++(jn t.target++(xz t.next++(xz t.all++zi t.qp))))++r))=(t,some r):=by
 obtain⟨h1,h2,h3,h4,h5,h6⟩:=h;unfold nP;simp only[List.append_assoc];rw[uf _ h1];simp only;rw[uf _ h2];simp only;unfold xz;rw[aR 8 _ (by omega) (by omega)];simp only;rw[aR 8 _ (by omega) (by omega)];simp only;rw[← h5,iE _ h6];simp only[Int.toNat_of_nonneg h3.1,Int.toNat_of_nonneg h4.1]
theorem qqp(m:Mt)(h:qoV m):mP (some (zq m))=m:=by
 have h1:jP 8 (some (zq m))=(m.live.length,some (zi m.live++(zk m.qd.length++(yP m.qd++tkB m.tok)))):=by
  unfold zq;exact aR 8 _ h.b (by omega) _
 have h2:fh (some (zq m))=(m.live,some (zk m.qd.length++(yP m.qd++tkB m.tok))):=by
  unfold fh;rw[h1];exact iE _ h.live _
 have h3:qcm (some (zq m))=(m.qd,some (tkB m.tok)):=by
  unfold qcm;rw[h2,h1,aR 20 _ h.few (by omega)];exact qac _ _ h.qd _
 unfold mP;rw[h3,h2,h1];dsimp only;have ht:=h.tok;unfold tkB;by_cases h0:m.tok.target=(0,0)
 ·rw[if_pos h0]at ht;rw[if_pos h0];have:=ym 0 (by omega) [];rw[List.append_nil]at this;rw[this,if_neg (by decide),← ht]
 ·rw[if_neg h0]at ht;rw[if_neg h0,ym 1 (by omega)];simp only[if_true];have:=qmv m.live.length m.tok ht [];rw[List.append_nil]at this;rw[this]
theorem qix{m:Mt}(hB:mB m)(h:xf m m.live.length 1024=0):qoV m:=by
 obtain⟨vD,hl1,hl8,qzy⟩:=wK hB h;unfold xf at h;split at h
 ·rename_i h1;exact absurd h h1
 rename_i h1;have h1':zA m.live m.live.length 1024=0:=Classical.byContradiction h1;split at h
 ·cases h
 split at h
 ·rename_i h3;exact absurd h h3
 rename_i h3;have h3':=Classical.byContradiction h3;have tg:∀ {l:List Int} {b:Int},zA l b 1024=0→tight l:=fun h z hz=>by
  rcases(jv h).2.2.2 z hz with h|h <;> omega
 refine⟨hl8,tg h1',qzy,fun s hs=>?_,?_⟩
 ·have:=iY h3' s hs;have hi:=jv this;exact⟨hB.qd s hs,by omega,tg this⟩
 ·have ht:=vD.tok;unfold aP at ht;unfold kz at h;by_cases h4:m.tok.target=(0,0)
  ·rw[if_pos h4]at ht ⊢;exact ht
  ·rw[if_neg h4]at h ⊢;split at h
   ·cases h
   ·rename_i h5;unfold wJ at h5;simp only[Bool.or_eq_true,not_or,Bool.not_eq_true,decide_eq_true_eq]at h5;obtain⟨⟨⟨⟨_,_⟩,e3⟩,e4⟩,e5⟩:=h5;have hi:=jv h;exact⟨hB.base,hB.target,by omega,by omega,by omega,tg h⟩
theorem qiy(b:Nat)(s:St):zV (nP b s).1.base∧zV (nP b s).1.target:=⟨oK _,oK _⟩
theorem qzz(s:St):mB (mP s):=by
 refine⟨fun x hx=>(rz _ _ _ x hx).2.2,?_,?_⟩
 ·show zV (if _ then _ else yg:Tk).base;split
  ·exact(qiy _ _).1
  ·exact aQ
 ·show zV (if _ then _ else yg:Tk).target;split
  ·exact(qiy _ _).2
  ·exact aQ
theorem qqq(s:List UInt8):iX s=if wx (mP (some s))=(s,0)then(mP (some s),0)else(mt0,4):=by
 by_cases h:wx (mP (some s))=(s,0)
 ·rw[if_pos h];exact qaa (qzz _) h
 ·rw[if_neg h];rcases qmt s with⟨m,h1⟩|h1
  ·exfalso;have h2:=(rr h1).1;have h3:=qit h2;apply h;rw[h3.2.1,qqp m (qix (qug h1) h3.1),← h3.2.1];exact h2
  ·exact h1
end Go.Proofs.YtdpbdkacngaemaaGreatDoor.mt.pg
namespace Go.Proofs
open _root_.Go.Proofs.Tryz Go.Shelf
def Tryz.qad:Go.Shelf.Ren:=⟨fun | 129=>295|n=>n,fun | 53=>36 | 3=>3 | 4=>4 | 46=>281 | 5=>5 | 9=>9|n=>n,fun|n=>n⟩
theorem Tryz.qmx:Go.Proofs.Lays.n129 prog Tryz.qad:={
 mixed:=by kernel_rfl
 f129:=func295.trans (congrArg some (by kernel_rfl))
 t3:=underlying3
 a3:=isAgg3
 z3:=sizeOf3
 v3:=zeroValue3
 t4:=underlying4
 a4:=isAgg4
 z4:=sizeOf4
 v4:=zeroValue4
 t5:=underlying5
 a5:=isAgg5
 z5:=sizeOf5
 v5:=zeroValue5
 t9:=underlying9
 a9:=isAgg9
 z9:=sizeOf9
 v9:=zeroValue9
 t46:=underlying281
 a46:=isAgg281
 z46:=sizeOf281
 v46:=zeroValue281
 t53:=underlying36
 a53:=isAgg36
 z53:=sizeOf36
 v53:=zeroValue36 }
theorem Tryz.bits_Len64(x:Int)(w:World)(h0:0≤x)(h1:x≤18446744073709551615) :
    Calls prog 295 #[.int .u64 x] w fun e w'=>e=.returned (.int .i64 (Lib.bitLen x.toNat))∧w'=w:=Any.bits_Len64 Tryz.qmx x w h0 h1
def Tryz.fj:Go.Shelf.Ren:=⟨fun | 166=>235 | 240=>273 | 276=>289|n=>n,fun | 0=>0 | 3=>3 | 4=>4 | 9=>9 | 20=>20 | 37=>64 | 70=>294 | 72=>296 | 75=>298 | 164=>345 | 5=>5 | 80=>226|n=>n,fun|n=>n⟩
theorem Tryz.qmy:Go.Proofs.Lays.n166 prog Tryz.fj:={
 mixed:=by kernel_rfl
 f166:=func235.trans (congrArg some (by kernel_rfl))
 f240:=func273.trans (congrArg some (by kernel_rfl))
 f276:=func289.trans (congrArg some (by kernel_rfl))
 t0:=underlying0
 a0:=isAgg0
 z0:=sizeOf0
 v0:=zeroValue0
 t3:=underlying3
 a3:=isAgg3
 z3:=sizeOf3
 v3:=zeroValue3
 t4:=underlying4
 a4:=isAgg4
 z4:=sizeOf4
 v4:=zeroValue4
 t9:=underlying9
 a9:=isAgg9
 z9:=sizeOf9
 v9:=zeroValue9
 t20:=underlying20
 a20:=isAgg20
 z20:=sizeOf20
 v20:=zeroValue20
 t37:=underlying64
 a37:=isAgg64
 z37:=sizeOf64
 v37:=zeroValue64
 t70:=underlying294
 a70:=isAgg294
 z70:=sizeOf294
 v70:=zeroValue294
 t72:=underlying296
 a72:=isAgg296
 z72:=sizeOf296
 v72:=zeroValue296
 t75:=underlying298
 a75:=isAgg298
 z75:=sizeOf298
 v75:=zeroValue298
 t164:=underlying345
 a164:=isAgg345
 z164:=sizeOf345
 v164:=zeroValue345 }
theorem Tryz.aS:Builder.Extra prog Tryz.fj:={
 sizeBuilder:=by kernel_rfl
 liesBuilder:=by kernel_rfl
 t5:=underlying5
 a5:=isAgg5
 z5:=sizeOf5
 v5:=zeroValue5
 infoByte:=by kernel_rfl
 cellsByte:=by kernel_rfl
 sizeByte:=by kernel_rfl
 neB5:=by decide }
open Go.RowKit in
theorem Tryz.Builder_WriteString(B b:Nat)(bs:List Value)(s:ByteArray)(w:World)(h:Lib.IsBuilder 296 5 B b bs w)(hlen:bs.length+s.size≤140737488355328)(hBw:B≤w.heap.size) :
    Calls prog 235 #[.pointer (some ⟨b,0,none⟩),.string s] w fun e w'=>e=.returned (.tuple #[.int .i64 s.size,.nilIface])∧(Lib.BuilderAt 296 5 B b (.pointer (some ⟨b,0,none⟩)) (bs++Lib.strCells s) w'∧Below B w w'):=Any.Builder_WriteString Tryz.qmy Tryz.aS B b bs s w h hlen hBw
def Tryz.fk:Go.Shelf.Ren:=⟨fun | 169=>237|n=>n,fun | 70=>294 | 9=>9 | 0=>0 | 72=>296 | 37=>64 | 127=>330 | 3=>3 | 5=>5|n=>n,fun|n=>n⟩
theorem Tryz.qmz:Go.Proofs.Lays.n169 prog Tryz.fk:={
 mixed:=by kernel_rfl
 f169:=func237.trans (congrArg some (by kernel_rfl))
 t0:=underlying0
 a0:=isAgg0
 z0:=sizeOf0
 v0:=zeroValue0
 t3:=underlying3
 a3:=isAgg3
 z3:=sizeOf3
 v3:=zeroValue3
 t9:=underlying9
 a9:=isAgg9
 z9:=sizeOf9
 v9:=zeroValue9
 t37:=underlying64
 a37:=isAgg64
 z37:=sizeOf64
 v37:=zeroValue64
 t70:=underlying294
 a70:=isAgg294
 z70:=sizeOf294
 v70:=zeroValue294
 t72:=underlying296
 a72:=isAgg296
 z72:=sizeOf296
 v72:=zeroValue296
 t127:=underlying330
 a127:=isAgg330
 z127:=sizeOf330
 v127:=zeroValue330 }
theorem Tryz.aT:Builder.Extra prog Tryz.fk:={
 sizeBuilder:=by kernel_rfl
 liesBuilder:=by kernel_rfl
 t5:=underlying5
 a5:=isAgg5
 z5:=sizeOf5
 v5:=zeroValue5
 infoByte:=by kernel_rfl
 cellsByte:=by kernel_rfl
 sizeByte:=by kernel_rfl
 neB5:=by decide }
open Go.RowKit in
theorem Tryz.Builder_String_any(B b:Nat)(l:List UInt8)(w:World)(h:Lib.IsBuilder 296 5 B b (Lib.byteCells l) w)(hBw:B≤w.heap.size) :
    Calls prog 237 #[.pointer (some ⟨b,0,none⟩)] w fun e w'=>e=.returned (.string ⟨l.toArray⟩)∧Below B w w':=Any.Builder_String_any Tryz.qmz Tryz.aT B b l w h hBw
end Go.Proofs
namespace Go.Proofs.YtdpbdkacngaemaaGreatDoor
open _root_.Go.Proofs.Tryz Go.RowKit
theorem Tryz.qiz:(prog.info? 9).map (fun i=>(i.zero,i.size,i.bytes))=some (some (.string ByteArray.empty),1,16):=by kernel_rfl
theorem Tryz.qae:(prog.info? 5).map (fun i=>(i.zero,i.size,i.bytes))=some (some (.int .u8 0),1,1):=by kernel_rfl
end Go.Proofs.YtdpbdkacngaemaaGreatDoor
namespace Go.Proofs.YtdpbdkacngaemaaGreatDoor.wi
open _root_.Go.Proofs.Tryz Go.RowKit
theorem oM (n:Int)(w:World)(h0:0≤n)(h1:n≤18446744073709551615) :
    Calls prog 291 #[.int .u64 n] w fun e w'=>e=.returned (.int .i64 ((zv n.toNat).length:Nat))∧w=w':=by
 have hc:=count_eq n.toNat (by omega);have hb:Lib.bitLen n.toNat≤64:=Lib.bitLen_le _ 64 (by omega) (by omega);have e1:((zv n.toNat).length:Int)=((Lib.bitLen n.toNat:Nat)+7:Int)/8:=by omega
 have E1:=QH e1;clear e1 hc;go_enter func291,ntmps291;go_wp2_with (go_at_call 295;refine(Tryz.bits_Len64 n _ h0 h1).mono ?_;rintro e w' ⟨rfl,rfl⟩);go_ret;exact⟨by rw[E1.out];rfl,rfl⟩
def qi0 (n:Nat)(w:World)(e:Ending)(w':World):Prop :=
 e=.returned (.string (str [UInt8.ofNat (zv n).length]))∧Below w.heap.size w w'
theorem quh(k:Nat)(hk:k<256)(w:World) :
    (convert 64 9 (.slice (some ⟨w.heap.size,0,none⟩) 1 1)).run prog (w.alloc (.cells #[.int .u8 (k:Int)] 5))=.ok (.string (str [UInt8.ofNat k])) (w.alloc (.cells #[.int .u8 (k:Int)] 5)):=by
 refine run_convert_bytes_back (P:=prog) _ 64 9 5 ⟨w.heap.size,0,none⟩ 1 [UInt8.ofNat k] underlying64 underlying5 underlying9 ?_;intro j hj;have:j=0:=by simpa using hj
 subst this;have e:(UInt8.ofNat k).toNat=k:=ue k hk;simp[Addr.add,e,World.cell?,World.alloc,-World.alloc_eq]
theorem aU (n:Int)(w:World)(h0:0≤n)(h1:n≤18446744073709551615) :
    Calls prog 277 #[.int .u64 n] w (qi0 n.toNat w):=by
 have hl:=jh n.toNat;have hcv:=quh (zv n.toNat).length (by omega) w;go_enter func277,ntmps277;go_wp2_with (go_at_call 291;refine(oM n _ h0 h1).mono ?_;rintro e w' ⟨rfl,rfl⟩);go_ret;exact⟨rfl,(Below.refl _ _).alloc (Nat.le_refl _) _⟩
def yQ (D:List UInt8)(k:Nat):List Value:=List.replicate k (.int .u8 0)++Lib.byteCells (D.drop k)
def qaf (n:Nat)(w:World)(e:Ending)(w':World):Prop :=
 e=.returned (.string (str (zv n)))∧Below w.heap.size w w'
def qqr (D:List UInt8)(w:World)(n i:Value)(wr:World):Prop :=
 ∃k m:Nat,i=.int .i64 ((k:Int)-1)∧n=.int .u64 (m:Int)∧m<18446744073709551616∧zv m=D.take k∧k≤D.length ∧
  wr.ownsRow w.heap.size 5 1 (.slice (some ⟨w.heap.size,0,none⟩) D.length D.length) D.length (yQ D k)∧Below w.heap.size w wr
theorem rA (D:List UInt8)(k:Nat)(h:k<D.length):(yQ D (k+1)).set k (.int .u8 (D[k].toNat:Int))=yQ D k:=by
 unfold yQ;rw[List.replicate_succ',List.append_assoc,List.set_append_right _ _ (by simp),List.length_replicate,Nat.sub_self,List.drop_eq_getElem_cons h];rfl
theorem qi1(D:List UInt8)(m k:Nat)(hm:m<18446744073709551616)(hk:k<D.length)(h:zv m=D.take (k+1)) :
    m≠0∧zv (m/256)=D.take k∧D[k].toNat=m%256:=by
 have h0:m≠0:=by
  intro e;subst e;have:=congrArg List.length h;simp[qfx]at this;omega
 have e:=qip m h0 hm;rw[h,List.take_succ_eq_append_getElem hk]at e;have e':=List.append_inj' e rfl;refine⟨h0,e'.1.symm,?_⟩;have:=e'.2;simp at this;rw[this,ue _ (by omega)]
theorem l5 (n:Int)(w:World)(h0:0≤n)(h1:n≤18446744073709551615) :
    Calls prog 278 #[.int .u64 n] w (qaf n.toNat w):=by
 have hl:=jh n.toNat;obtain⟨i0,hi,hz0,hz1,hz2⟩:=info_parts Tryz.qae;have hmk:=run_make (P:=prog) w 64 5 i0 (.int .u8 0) underlying64 hi hz0 .i64 .i64 ((zv n.toNat).length:Int) ((zv n.toNat).length:Int) (by omega) (by omega) (by rw[hz2];omega) (by omega);have qi2:(w.alloc (.cells (madeCells #[.int .u8 0] (zv n.toNat).length) 5)).ownsRow w.heap.size 5 1 (.slice (some ⟨w.heap.size,0,none⟩) (zv n.toNat).length (zv n.toNat).length) (zv n.toNat).length (yQ (zv n.toNat) (zv n.toNat).length):=by
  have:=World.ownsRow_lit (e:=5) (size:=1) (base:=w.heap.size) w (madeCells #[.int .u8 0] (zv n.toNat).length) (zv n.toNat).length (Nat.le_refl _) (by unfold maxLen;omega) (by simp[size_madeCells]);have e:(madeCells #[.int .u8 0] (zv n.toNat).length).toList=yQ (zv n.toNat) (zv n.toNat).length:=by
   apply List.ext_getElem?;intro j;by_cases hj:j<(zv n.toNat).length <;> simp[madeCells,yQ,Lib.byteCells,hj,Nat.mod_one]
  rw[← e];exact this
 have hb0:Below w.heap.size w (w.alloc (.cells (madeCells #[.int .u8 0] (zv n.toNat).length) 5)):=(Below.refl _ _).alloc (Nat.le_refl _) _;have hn:((n.toNat:Nat):Int)=n:=by omega
 have Hn:=QH hn;clear hn;rw[hz1]at hmk;clear hi hz0 hz1 hz2;go_enter func278,ntmps278;go_wp2_with (go_at_call 291;refine(oM n _ h0 h1).mono ?_;rintro e w' ⟨rfl,rfl⟩);go_loopw [0,4] (fun n' i wr=>qqr (zv n.toNat) w n' i wr) (fun _ i _=>(intOf i+1).toNat);case atStart=>exact⟨(zv n.toNat).length,n.toNat,rfl,by rw[Hn.out],by omega,by simp,Nat.le_refl _,qi2,hb0⟩
 case round =>
  obtain⟨k,m,rfl,rfl,hm,hd,hk,hown,hb⟩:=hrel;cases k with
  | zero =>
   have hcv:=run_convert_bytes_back (P:=prog) wr 64 9 5 ⟨w.heap.size,0,none⟩ (zv n.toNat).length (zv n.toNat) underlying64 underlying5 underlying9 (by
    intro j hj;have:=hown.cellAt j (by omega);rw[addr_add,Nat.zero_add,this];simp[yQ,Lib.byteCells,List.getElem?_eq_getElem hj])
   have qui:(convert 64 9 (.slice (some ⟨w.heap.size,0,none⟩) (zv n.toNat).length (zv n.toNat).length)).run prog wr=.ok (.string (str (zv n.toNat))) wr:=hcv;clear hcv;go_wp2;go_ret;exact⟨rfl,hb⟩
  | succ k =>
   have hx:=hown.cellAt k (by omega);rw[show(yQ (zv n.toNat) (k+1))[k]?=some (.int .u8 0)from by simp[yQ,List.getElem?_append]]at hx;have hf:=hown.frozenAt k;have hs:=hown.stored k (.int .u8 (((zv n.toNat)[k]'(by omega)).toNat:Int));rw[rA _ _ (by omega)]at hs;obtain⟨hs1,hs2⟩:=hs;obtain⟨hm0,hd',dQ⟩:=qi1 (zv n.toNat) m k hm (by omega) hd;have Hs1:=QH hs1;have Hs2:=QH hs2;have Hd:=QH hd';have Hl:=QH dQ;clear hs1 hs2 hd' dQ hd hown;go_wp2;have e:((m:Int)%256)=(((zv n.toNat)[k]'(by omega)).toNat:Int):=by rw[Hl.out];omega
   rw[e];exact⟨⟨k,m/256,rfl,rfl,by omega,Hd.out,by omega,Hs1.out,hb.grown Hs2.out (by have:=hb.size;omega) (fun j hj=>by cases hj;exact Nat.le_refl _)⟩,by simp[intOf]⟩
theorem qi3(n:Nat)(w:World)(h:n<18446744073709551616):Calls prog 277 #[.int .u64 (n:Int)] w (qi0 n w):=by
 have:=aU (n:Int) w (by omega) (by omega)
 rwa [Int.toNat_natCast]at this
theorem qcn(n:Nat)(w:World)(h:n<18446744073709551616):Calls prog 278 #[.int .u64 (n:Int)] w (qaf n w):=by
 have:=l5 (n:Int) w (by omega) (by omega)
 rwa [Int.toNat_natCast]at this
def aV (w:World)(b o:Nat)(ps:List ByteArray):Prop:=∀i (h:i<ps.length),w.cell? ⟨b,o+i,none⟩=some (.string ps[i])
def quk (s:ByteArray)(ps:List ByteArray)(w:World)(e:Ending)(w':World):Prop :=
 e=.returned (.string (str (bl s++flat ps)))∧Below w.heap.size w w'
def qco (s:ByteArray)(ps:List ByteArray)(w:World)(i:Value)(wr:World):Prop :=
 ∃k:Nat,k≤ps.length∧i=.int .i64 (k:Int)∧Lib.IsBuilder 296 5 w.heap.size w.heap.size (Lib.byteCells (bl s++flat (ps.take k))) wr∧Below w.heap.size w wr
theorem ug (s:ByteArray)(b o c:Nat)(ps:List ByteArray)(w:World)(hb:b<w.heap.size)(hc:aV w b o ps)(hl:ps.length≤1000000)(hs:s.size+(flat ps).length≤140737488355328) :
    Calls prog 276 #[.string s,.slice (some ⟨b,o,none⟩) ps.length c] w (quk s ps w):=by
 have h0:Lib.IsBuilder 296 5 w.heap.size w.heap.size [] (w.alloc (.cells #[.pointer none,.slice none 0 0] 296)):=Lib.fresh_isBuilder 296 5 w;have b0:Below w.heap.size w (w.alloc (.cells #[.pointer none,.slice none 0 0] 296)):=(Below.refl _ w).alloc (Nat.le_refl _) _;go_enter func276,ntmps276;go_wp2_with (go_at_call 235;refine(Tryz.Builder_WriteString w.heap.size w.heap.size [] s _ h0 (by simp;omega) b0.size).mono ?_);rintro e W1 ⟨rfl,h1,b1⟩;have h1':Lib.IsBuilder 296 5 w.heap.size w.heap.size (Lib.byteCells (bl s)) W1:=by
  rw[List.nil_append,Lib.strCells_eq]at h1;exact Or.inr h1
 have b1':=b0.trans b1;clear h1 b1 h0 b0;go_wp2;go_loopw [12] (fun i wr=>qco s ps w i wr) (fun i _=>ps.length-(intOf i).toNat);case atStart=>exact⟨0,Nat.zero_le _,rfl,by simpa[flat]using h1',b1'⟩
 case round =>
  obtain⟨k,hk,rfl,hI,hB⟩:=hrel;by_cases hlt:k<ps.length
  ·have hcell:wr.cell? ⟨b,o+k,none⟩=some (.string ps[k]):=by
      rw[hB.cell (p:=⟨b,o+k,none⟩) hb];exact hc k hlt
   have wA:=qf0 ps k hlt;have hfm:=nO ps (k+1);have hbl:=zg s;have hbp:=zg ps[k];have hlen:(Lib.byteCells (bl s++flat (ps.take k))).length+ps[k].size≤140737488355328:=by
    rw[Lib.byteCells_length];rw[wA]at hfm;simp at hfm ⊢;omega
   have Hfl:=QH wA;clear wA hfm hbl hbp;go_wp2_with (go_at_call 235;refine(Tryz.Builder_WriteString w.heap.size w.heap.size _ ps[k] _ hI hlen hB.size).mono ?_);rintro e W2 ⟨rfl,h2,b2⟩;have h2':Lib.IsBuilder 296 5 w.heap.size w.heap.size (Lib.byteCells (bl s++flat (ps.take (k+1)))) W2:=by
    rw[Lib.strCells_eq,← Lib.byteCells_append]at h2;rw[Hfl.out,← List.append_assoc];exact Or.inr h2
   have b2':=hB.trans b2;clear h2 b2 hI hB;go_wp2;go_roundw;case rel=>exact⟨k+1,by omega,by go_num,h2',b2'⟩
   case measure=>simp[intOf];omega
  ·have gZ:k=ps.length:=by omega
   subst gZ;rw[List.take_length]at hI;go_wp2_with (go_at_call 237;refine(Tryz.Builder_String_any w.heap.size w.heap.size _ _ hI hB.size).mono ?_);rintro e W2 ⟨rfl,b2⟩;have b2':=hB.trans b2;clear b2 hI hB;go_wp2;go_ret;exact⟨rfl,b2'⟩
theorem aW (ps:List ByteArray)(w:World):aV (w.alloc (.cells (ps.map Value.string).toArray 9)) w.heap.size 0 ps:=by
 intro i h;simp[World.cell?,World.alloc,-World.alloc_eq]
theorem rB (a b:ByteArray)(w:World):aV (w.alloc (.cells #[.string a,.string b] 9)) w.heap.size 0 [a,b]:=aW [a,b] w
theorem l6 (a b c:ByteArray)(w:World):aV (w.alloc (.cells #[.string a,.string b,.string c] 9)) w.heap.size 0 [a,b,c]:=aW [a,b,c] w
def qag (s:ByteArray)(n:Nat)(w:World)(e:Ending)(w':World):Prop :=
 e=.returned (.string (str (bl s++zk n)))∧Below w.heap.size w w'
theorem qcp(s:ByteArray)(n:Int)(w:World)(h0:0≤n)(h1:n≤18446744073709551615)(hs:s.size≤140737488355000) :
    Calls prog 250 #[.string s,.int .u64 n] w (qag s n.toNat w):=by
 have hl:=jh n.toNat;go_enter func250,ntmps250;go_wp2_with (go_at_call 277;refine(aU n _ h0 h1).mono ?_);rintro e W1 ⟨rfl,b1⟩;go_wp2_with (go_at_call 278;refine(l5 n _ h0 h1).mono ?_);rintro e W2 ⟨rfl,b2⟩;go_wp2_with (go_at_call 276;refine(ug s W2.heap.size 0 2 [str [UInt8.ofNat (zv n.toNat).length],str (zv n.toNat)] _ ?_ (rB _ _ _) (by simp) ?_).mono ?_)
 ·simp
 ·simp[flat,zn];omega
 ·rintro e W3 ⟨rfl,b3⟩;have b':=qc (zD (qc b1 b2) _) b3;clear b1 b2 b3;go_wp2;go_ret;exact⟨by simp[flat,zn,zk],b'⟩
theorem jw (s:ByteArray)(n:Nat)(w:World)(h:n<18446744073709551616)(hs:s.size≤140737488355000) :
    Calls prog 250 #[.string s,.int .u64 (n:Int)] w (qag s n w):=by
 have:=qcp s (n:Int) w (by omega) (by omega) hs
 rwa [Int.toNat_natCast]at this
theorem zN {w w1 w2:World}{r:Option Nat}(h:w.grownBy w1 r)(k:w1.grownBy w2 r):w.grownBy w2 r :=
 ⟨k.os.trans h.os,k.tape.trans h.tape,k.output.trans h.output,Nat.le_trans h.size k.size,
  fun i hi hr=>(k.block i (Nat.lt_of_lt_of_le hi h.size) hr).trans (h.block i hi hr)⟩
theorem jx (w:World)(r:Option Nat):w.grownBy w r:=⟨rfl,rfl,rfl,Nat.le_refl _,fun _ _ _=>rfl⟩
theorem qah(l:List UInt8)(k:Nat)(h:k<l.length):val (l.take (k+1))=val (l.take k)*256+l[k].toNat:=by
 rw[List.take_succ_eq_append_getElem h,iV]
end Go.Proofs.YtdpbdkacngaemaaGreatDoor.wi

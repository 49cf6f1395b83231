/- Str, ImPure, WiPure, MtNsec, MtPure, MtMath, MgPure, WiShelf, ShBuilder, Info, WiPut, WiGrown, WiRead, WiNum, WiNumG, WiNumR, Ints, Blk, ICells, StillW, Dat, Lists, MtMem, MtEq, WiRefR0, WiRefN, WiRefG, WiRefQ, MtRd, OwnKit, MtSns. -/
import Derived.Below
import Derived.Lib.Hide
import Derived.Lib.Strings
import Derived.RowKit
import Derived.Lib.ItoaNum
import Derived.Shelf.Strconv.Itoa0
import Derived.Test.YtdpbdkacngaemaaGreatDoorProg
import Derived.Shelf.Strings.Builder1
import Derived.WalkKit
import Derived.WalkSpells
import Derived.WalkLawsBesides
import Derived.BigCall
import Derived.Lib.ConvBytes
import Derived.OpenShut
import Derived.Deep.Slices
import Derived.Deep.SlicePairs
import Derived.Deep.Fields
import Derived.ChangeSlices
import Derived.ChangeSame
import Derived.Maps.AppendAt
import Derived.OwnWalk
import Derived.Deep.Draws
import Derived.StillTailTactics
import Derived.LoopTactic
import Derived.Deep.WholeRow
import Derived.Deep.AppendSrc
import Derived.Carry
import Derived.Laws.StructEq
import Derived.Laws.Cover2
import Derived.KernelRfl
import Derived.Deep.QuietTactic
import Derived.BigQuiet
import Derived.Laws.AppendOwn
import Derived.Tactics
set_option linter.unusedVariables false
set_option linter.unusedSimpArgs false
set_option maxHeartbeats 30000000
set_option maxRecDepth 100000
namespace Go.Proofs.YtdpbdkacngaemaaGreatDoor
theorem QH {p : Prop} (h : p) : Go.RowKit.Hid p := h
theorem QA {α : Type _} {l : List α} {i : Nat} : l.toArray[i]? = l[i]? := List.getElem?_toArray
theorem QB {α : Type _} {a : α} {l : List α} : (a :: l)[0]? = some a := List.getElem?_cons_zero
theorem QC {α : Type _} {a : α} {l : List α} {i : Nat} : (a :: l)[i + 1]? = l[i]? := List.getElem?_cons_succ
theorem QE {α : Sort _} (a : α) : ∃ x, a = x := ⟨a, rfl⟩
end Go.Proofs.YtdpbdkacngaemaaGreatDoor
namespace Go.Proofs.YtdpbdkacngaemaaGreatDoor
open _root_.Go.Proofs.Tryz Go Go.RowKit
def str (l:List UInt8):ByteArray:=⟨l.toArray⟩
def bl (s:ByteArray):List UInt8:=s.data.toList
theorem zC (l:List UInt8):bl (str l)=l:=by simp[bl,str]
theorem iq (s:ByteArray):str (bl s)=s:=by obtain⟨⟨l⟩⟩:=s;rfl
theorem qQ (l:List UInt8):(str l).size=l.length:=by simp[str,ByteArray.size]
theorem zn (s:ByteArray):(bl s).length=s.size:=by obtain⟨⟨l⟩⟩:=s;simp[bl,ByteArray.size]
theorem str_inj{l m:List UInt8}(h:str l=str m):l=m:=by
 have:=congrArg bl h
 rwa [zC,zC]at this
theorem aK (s:ByteArray):s.toList=bl s:=Lib.toList_data s
theorem wO (s:ByteArray)(a b:Nat):bl (s.extract a b)=((bl s).drop a).take (b-a):=Lib.extract_data s a b
theorem qq9(s:ByteArray)(k:Nat):bl (s.extract 0 k)=(bl s).take k:=by rw[wO];simp
theorem qhw(s:ByteArray)(k:Nat):bl (s.extract k s.size)=(bl s).drop k:=by
 rw[wO,List.take_of_length_le];rw[List.length_drop,zn];omega
theorem qeI(s:ByteArray)(l:List UInt8):(s.toList == (str l).toList)=decide (bl s=l):=by
 rw[aK,aK,zC,Bool.eq_iff_iff];simp
theorem kI (k:Nat)(h:k<256):(UInt8.ofNat k).toNat=k:=by
 simp[UInt8.toNat_ofNat'];omega
theorem addr_add(b o j:Nat):(⟨b,o,none⟩:Addr).add j=⟨b,o+j,none⟩:=by
 unfold Addr.add;split
 ·subst_vars;rfl
 ·rfl
theorem qa {w A B:World}(h:Below w.heap.size w A)(g:Below A.heap.size A B):Below w.heap.size w B:=h.trans (g.mono h.size)
theorem zR {w A:World}(h:Below w.heap.size w A)(o:Obj):Below w.heap.size w (A.alloc o):=h.alloc h.size o
def qa6 (w:World)(e:Ending)(w':World):Prop:=e=.returned (.bool true)∧Below w.heap.size w w'
def sS (r:ByteArray)(w:World)(e:Ending)(w':World):Prop:=e=.returned (.string r)∧Below w.heap.size w w'
end Go.Proofs.YtdpbdkacngaemaaGreatDoor
namespace Go.Proofs.YtdpbdkacngaemaaGreatDoor.im
open _root_.Go.Proofs.Tryz Go Go.RowKit
def pl (l:List Int)(i:Nat):Int:=l.getD i 0
theorem cX {l:List Int}{i:Nat}(h:i<l.length):pl l i=l[i]:=by simp[pl,List.getD,h]
theorem ir {l:List Int}{i:Nat}(h:l.length≤i):pl l i=0:=by simp[pl,List.getD,h]
def gV (n z:Int):Bool:=decide (z≠0)&&(decide (z<193) || decide (n≤z))
def dA (l:List Int)(i k:Nat):Bool:=(List.range k).any fun j=>decide (pl l i=pl l j)
def yz (l:List Int)(i:Nat):Bool:=(List.range i).any fun j=>decide (pl l j≠0)&&dA l j j
def zM (l:List Int)(blocks n:Int):Int :=
 if blocks<1∨8<blocks∨(l.length:Int)≠blocks then 2 else if l.any (gV n)then 2 else if yz l l.length then 16 else 0
def qch (l:List Int)(k s:Int):List Int × Int:=if k<0∨(l.length:Int)≤k∨s<0 then([],2)else(l.set k.toNat s,0)
theorem bQ (l:List Int)(i:Nat):yz l (i+1)=(yz l i || (decide (pl l i≠0)&&dA l i i)):=by
 unfold yz;rw[List.range_succ,List.any_append,List.any_cons,List.any_nil,Bool.or_false]
theorem qeJ{l:List Int}{i j m:Nat}(hi:i<m)(hj:j<i)(h0:pl l i≠0)(h:pl l i=pl l j):yz l m=true:=by
 unfold yz dA;rw[List.any_eq_true];refine⟨i,List.mem_range.2 hi,?_⟩;rw[decide_eq_true h0,Bool.true_and,List.any_eq_true];exact⟨j,List.mem_range.2 hj,decide_eq_true h⟩
theorem qlN{l:List Int}{k:Nat}(h:k<l.length)(p:Int→Bool):(l.take (k+1)).any p=((l.take k).any p || p l[k]):=by
 rw[List.take_succ_eq_append_getElem h,List.any_append,List.any_cons,List.any_nil,Bool.or_false]
theorem quR{l:List Int}{k:Nat}(h:k<l.length){p:Int→Bool}(hp:p l[k]=true):l.any p=true :=
 List.any_eq_true.2 ⟨_,List.getElem_mem h,hp⟩
end Go.Proofs.YtdpbdkacngaemaaGreatDoor.im
namespace Go.Proofs.YtdpbdkacngaemaaGreatDoor.wi
open _root_.Go.Proofs.Tryz Go
def xw:Nat→Nat→List UInt8
 | 0,_=>[]
 | f+1,n=>if n=0 then[]else xw f (n/256)++[UInt8.ofNat (n%256)]
def zI (n:Nat):List UInt8:=xw 8 n
def zx (n:Nat):List UInt8:=UInt8.ofNat (zI n).length::zI n
def bB (t:List UInt8):List UInt8:=zx t.length++t
def mn:Nat→List UInt8→Nat
 | a,[]=>a
 | a,b::l=>mn (a*256+b.toNat) l
def val (l:List UInt8):Nat:=mn 0 l
theorem bR (f:Nat):xw f 0=[]:=by cases f <;> simp[xw]
theorem yA:∀(f n:Nat),n<256 ^ f→xw (f+1) n=xw f n
 | 0,n,h=>by
  have:n=0:=by simpa using h
  subst this;simp[xw]
 | f+1,n,h=>by
  by_cases h0:n=0
  ·subst h0;simp[xw]
  ·have h1:n/256<256 ^ f:=by
      rw[Nat.pow_succ]at h;exact(Nat.div_lt_iff_lt_mul (by omega)).2 h
   rw[xw,if_neg h0,yA f _ h1,xw,if_neg h0]
theorem qi6:zI 0=[]:=rfl
theorem qlO(n:Nat)(h0:n≠0)(h:n<18446744073709551616):zI n=zI (n/256)++[UInt8.ofNat (n%256)]:=by
 have h1:n<256 ^ 8:=by simpa using h
 have e:zI n=xw 9 n:=(yA 8 n h1).symm;rw[e,xw,if_neg h0];rfl
theorem ix:∀(f n:Nat),(xw f n).length≤f
 | 0,_=>by simp[xw]
 | f+1,n=>by
  unfold xw;split
  ·simp
  ·have:=ix f (n/256);simp;omega
theorem jM (n:Nat):(zI n).length≤8:=ix 8 n
theorem lr:Lib.bitLen 0=0:=by simp[Lib.bitLen,Lib.bitLenAux_zero]
theorem qeK(n:Nat)(h0:n≠0)(h:n<18446744073709551616):1≤Lib.bitLen n :=
 (Lib.bitLenAux_bounds 64 n (by simpa using h) h0).1
theorem sT:∀(f n:Nat),f≤8→n<256 ^ f→(Lib.bitLen n+7)/8=(xw f n).length
 | 0,n,_,h=>by
  have:n=0:=by simpa using h
  subst this;simp[xw,lr]
 | f+1,n,hf,h=>by
  by_cases h0:n=0
  ·subst h0;simp[xw,lr]
  ·have h1:n/256<256 ^ f:=by
      rw[Nat.pow_succ]at h;exact(Nat.div_lt_iff_lt_mul (by omega)).2 h
   have h64:n<18446744073709551616:=by
    have:256 ^ (f+1)≤256 ^ 8:=Nat.pow_le_pow_right (by omega) hf;have e:(256:Nat) ^ 8=18446744073709551616:=by decide
    omega
   have ih:=sT f (n/256) (by omega) h1;rw[xw,if_neg h0];simp only[List.length_append,List.length_cons,List.length_nil];by_cases hb:256≤n
   ·rw[Lib.bitLen_shift8 n hb h64];omega
   ·have e:n/256=0:=by omega
    rw[e,bR];have a:=qeK n h0 h64;have b:=Lib.bitLen_le n 8 (by omega) (by omega);simp;omega
theorem count_eq(n:Nat)(h:n<18446744073709551616):(Lib.bitLen n+7)/8=(zI n).length :=
 sT 8 n (by omega) (by simpa using h)
theorem lu:∀(a:Nat) (l m:List UInt8),mn a (l++m)=mn (mn a l) m
 | _,[],_=>rfl
 | a,b::l,m=>by simp[mn,lu]
theorem np (l:List UInt8)(b:UInt8):val (l++[b])=val l*256+b.toNat:=by
 simp[val,lu,mn]
theorem iy:∀(f n:Nat),n<256 ^ f→val (xw f n)=n
 | 0,n,h=>by
  have:n=0:=by simpa using h
  subst this;rfl
 | f+1,n,h=>by
  by_cases h0:n=0
  ·subst h0;simp[xw,val,mn]
  ·have h1:n/256<256 ^ f:=by
      rw[Nat.pow_succ]at h;exact(Nat.div_lt_iff_lt_mul (by omega)).2 h
   rw[xw,if_neg h0,np,iy f _ h1];have:(UInt8.ofNat (n%256)).toNat=n%256:=by
    simp[UInt8.toNat_ofNat']
   rw[this];omega
theorem qlP(n:Nat)(h:n<18446744073709551616):val (zI n)=n:=iy 8 n (by simpa using h)
theorem qeL(l:List UInt8):val l<256 ^ l.length:=by
 have key:∀(l:List UInt8) (a:Nat),mn a l<(a+1)*256 ^ l.length:=by
  intro l
  induction l with
  | nil=>intro a;simp[mn]
  | cons b l ih =>
   intro a;have h:=ih (a*256+b.toNat);have hb:b.toNat<256:=b.toNat_lt;simp only[mn,List.length_cons,Nat.pow_succ]
   calc mn (a*256+b.toNat) l<(a*256+b.toNat+1)*256 ^ l.length:=h
    _≤((a+1)*256)*256 ^ l.length:=Nat.mul_le_mul_right _ (by omega)
    _=(a+1)*(256 ^ l.length*256):=by rw[Nat.mul_assoc,Nat.mul_comm 256]
 have:=key l 0;simpa[val]using this
theorem qlQ(l:List UInt8)(h:l.length≤8):val l<18446744073709551616:=by
 have a:=qeL l;have b:256 ^ l.length≤256 ^ 8:=Nat.pow_le_pow_right (by omega) h;have e:(256:Nat) ^ 8=18446744073709551616:=by decide
 omega
theorem qi7:∀(l:List UInt8) (f:Nat),l.length≤f→(∀b m,l=b::m→b≠0)→xw f (val l)=l:=by
 intro l;have key:∀(k:Nat) (l:List UInt8),l.length=k→∀f,l.length≤f→(∀b m,l=b::m→b≠0)→xw f (val l)=l∧(l≠[]→val l≠0):=by
  intro k
  induction k with
  | zero =>
   intro l hl f _ _;have:l=[]:=List.length_eq_zero_iff.1 hl;subst this;exact⟨bR f,fun h=>absurd rfl h⟩
  | succ k ih =>
   intro l hl f hf hz;have hne:l≠[]:=by intro h;subst h;simp at hl
   have hs:l=l.dropLast++[l.getLast hne]:=(List.dropLast_concat_getLast hne).symm;generalize l.dropLast=p at hs;generalize l.getLast hne=b at hs;subst hs;have hp:p.length=k:=by simpa using hl
   obtain⟨f,rfl⟩:∃g,f=g+1:=⟨f-1,by simp at hf;omega⟩;have ihp:=ih p hp f (by simp at hf;omega) (fun c m h=>hz c (m++[b]) (by rw[h];rfl));have hb:b.toNat<256:=b.toNat_lt;rw[np];have hnz:val p*256+b.toNat≠0:=by
    by_cases hpe:p=[]
    ·subst hpe;have hb0:=hz b [] rfl;have:b.toNat≠0:=fun h=>hb0 (by apply UInt8.toNat_inj.1;simpa using h);omega
    ·have:=ihp.2 hpe;omega
   refine⟨?_,fun _=>hnz⟩;rw[xw,if_neg hnz,show(val p*256+b.toNat)/256=val p by omega,ihp.1,show(val p*256+b.toNat)%256=b.toNat by omega];simp
 intro f hf hz;exact(key l.length l rfl f hf hz).1
theorem qlR(l:List UInt8)(hl:l.length≤8)(hz:∀b m,l=b::m→b≠0):zI (val l)=l:=qi7 l 8 hl hz
theorem qi8(n:Nat)(h:n<18446744073709551616)(b:UInt8)(m:List UInt8)(e:zI n=b::m):b≠0:=by
 have key:∀(f n:Nat),n<256 ^ f→∀b m,xw f n=b::m→b≠0:=by
  intro f
  induction f with
  | zero=>intro n _ b m e;simp[xw]at e
  | succ f ih =>
   intro n hn b m e;by_cases h0:n=0
   ·subst h0;simp[xw]at e
   ·have h1:n/256<256 ^ f:=by
       rw[Nat.pow_succ]at hn;exact(Nat.div_lt_iff_lt_mul (by omega)).2 hn
    rw[xw,if_neg h0]at e;by_cases hq:n/256=0
    ·rw[hq,bR]at e;simp at e;intro hb;have:(UInt8.ofNat (n%256)).toNat=0:=by rw[e.1,hb];rfl
     simp[UInt8.toNat_ofNat']at this;omega
    ·cases hd:xw f (n/256)with
     | nil =>
      have v:=iy f _ h1;rw[hd]at v;exact absurd v.symm hq
     | cons c r =>
      rw[hd]at e;simp at e;rw[← e.1];exact ih _ h1 c r hd
 exact key 8 n (by simpa using h) b m e
def rdNum (l:List UInt8):Option (Nat × List UInt8) :=
 match l with
 | []=>none
 | k::r =>
  if 8<k.toNat then none
  else if r.length<k.toNat then none
  else if (r.take k.toNat).head? = some 0 then none
  else some (val (r.take k.toNat),r.drop k.toNat)
def jd (l:List UInt8):Option (List UInt8 × List UInt8) :=
 match rdNum l with
 | none=>none
 | some (n,r)=>if r.length<n then none else some (r.take n,r.drop n)
theorem uq (n:Nat)(h:n<18446744073709551616)(r:List UInt8):rdNum (zx n++r)=some (n,r):=by
 have hl:=jM n;have e:(UInt8.ofNat (zI n).length).toNat=(zI n).length:=kI _ (by omega);have ht:(zI n++r).take (zI n).length=zI n:=by simp
 have hh:¬ (zI n).head? = some 0:=by
  intro hc;cases hd:zI n with
  | nil=>rw[hd]at hc;simp at hc
  | cons b m =>
   rw[hd]at hc;simp at hc;exact qi8 n h b m hd hc
 show rdNum (UInt8.ofNat (zI n).length::(zI n++r))=_;unfold rdNum;simp only[e];rw[if_neg (by omega),if_neg (by simp),ht,if_neg hh,qlP n h];simp
theorem nr (t:List UInt8)(h:t.length<18446744073709551616)(r:List UInt8):jd (bB t++r)=some (t,r):=by
 unfold jd bB;rw[List.append_assoc,uq _ h];simp
theorem dB (l:List UInt8)(n:Nat)(r:List UInt8)(h:rdNum l=some (n,r)):l=zx n++r∧n<18446744073709551616:=by
 cases l with
 | nil=>simp[rdNum]at h
 | cons k q =>
  unfold rdNum at h;by_cases h1:8<k.toNat
  ·simp[h1]at h
  by_cases h2:q.length<k.toNat
  ·simp[h1,h2]at h
  by_cases h3:(q.take k.toNat).head? = some 0
  ·simp[h1,h2,h3]at h
  ·simp only[h1,h2,h3,if_false,Option.some.injEq,Prod.mk.injEq]at h;obtain⟨rfl,rfl⟩:=h;have hl:(q.take k.toNat).length=k.toNat:=by simp;omega
   have hz:∀b m,q.take k.toNat=b::m→b≠0:=by
    intro b m e hb;apply h3;rw[e,hb];rfl
   have hd:=qlR (q.take k.toNat) (by omega) hz;refine⟨?_,qlQ _ (by omega)⟩;unfold zx;rw[hd,hl];have ek:UInt8.ofNat k.toNat=k:=by simp
   rw[ek];simp
def flat (ps:List ByteArray):List UInt8:=(ps.map bl).flatten
theorem qi9(ps:List ByteArray)(k:Nat)(h:k<ps.length):flat (ps.take (k+1))=flat (ps.take k)++bl ps[k]:=by
 unfold flat;rw[List.take_succ_eq_append_getElem h,List.map_append,List.flatten_append];simp
theorem rU (ps:List ByteArray)(k:Nat):(flat (ps.take k)).length≤(flat ps).length:=by
 have:flat ps=flat (ps.take k)++flat (ps.drop k):=by
  unfold flat;rw[← List.flatten_append,← List.map_append,List.take_append_drop]
 rw[this];simp
end Go.Proofs.YtdpbdkacngaemaaGreatDoor.wi
namespace Go.Proofs.YtdpbdkacngaemaaGreatDoor.mt
def nsec (n:Nat):Nat:=(n+37)/32
end Go.Proofs.YtdpbdkacngaemaaGreatDoor.mt
namespace Go.Proofs.YtdpbdkacngaemaaGreatDoor.mt
open _root_.Go.Proofs.Tryz Go Go.RowKit im wi
abbrev Gd:=Nat × Nat
def xF (g:Gd):Prop:=g.1<18446744073709551616∧g.2<18446744073709551616
structure Sp where
 g:Gd
 qu:List Int
 hid:Bool
 deriving DecidableEq
structure Tk where
 base:Gd
 target:Gd
 next:Int
 all:Int
 qu:List Int
 deriving DecidableEq
structure Mt where
 live:List Int
 qc:List Sp
 tok:Tk
 deriving DecidableEq
def yB:Tk:=⟨(0,0),(0,0),0,0,[]⟩
def mt0:Mt:=⟨[],[],yB⟩
def above (a b:Gd):Bool:=decide (b.1<a.1) || (decide (a.1=b.1)&&decide (b.2<a.2))
def yc (b n:Int):Gd→List Sp→Int × Gd
 | last,[]=>(0,last)
 | last,s::r=>if above s.g last=true then(if zM s.qu b n=0 then yc b n s.g r else(zM s.qu b n,s.g))else(2,last)
def qa7 (t:Tk):Bool:=decide (t.base=(0,0))&&decide (t.next=0)&&decide (t.all=0)&&decide (t.qu=[])
def dC (t:Tk)(last:Gd)(b:Int):Bool:=!decide (t.base=last) || !above t.target last || decide (t.next<1) || decide (t.all≤t.next) || decide (b<t.all)
def uz (b n:Int)(last:Gd)(t:Tk):Int :=
 if t.target=(0,0)then(if qa7 t=true then 0 else 2)else if dC t last b=true then 2 else zM t.qu b n
def xx (m:Mt)(b n:Int):Int :=
 if zM m.live b n≠0 then zM m.live b n
 else if 20<m.qc.length then 3
 else if (yc b n (0,0) m.qc).1≠0 then(yc b n (0,0) m.qc).1
 else uz b n (yc b n (0,0) m.qc).2 m.tok
def xJ (z:Int):List UInt8:=zx z.toNat
def zv (l:List Int):List UInt8:=l.flatMap xJ
def jY (g:Gd):List UInt8:=zx g.1++zx g.2
def spB (s:Sp):List UInt8:=jY s.g++(zx (if s.hid then 1 else 0)++zv s.qu)
def ji (l:List Sp):List UInt8:=l.flatMap spB
def tkB (t:Tk):List UInt8:=if t.target=(0,0)then zx 0 else zx 1++(jY t.base++(jY t.target++(xJ t.next++(xJ t.all++zv t.qu))))
def zD (m:Mt):List UInt8:=zx m.live.length++(zv m.live++(zx m.qc.length++(ji m.qc++tkB m.tok)))
def gW (m:Mt):List UInt8 × Int :=
 if xx m m.live.length 1024≠0 then([],xx m m.live.length 1024)else if 48<nsec (zD m).length then([],3)else(zD m,0)
abbrev St:=Option (List UInt8)
def xd (s:St):Nat × St:=match s with
 | none=>(0,none)
 | some l=>match rdNum l with
  | none=>(0,none)
  | some (n,r)=>(n,some r)
def uA (s:St):Nat × St:=(min (xd s).1 1048576,(xd s).2)
def lx:Nat→St→List Int × St
 | 0,s=>([],s)
 | n+1,s=>(((uA s).1:Int)::(lx n (uA s).2).1,(lx n (uA s).2).2)
def kS (s:St):Gd × St:=(((xd s).1,(xd (xd s).2).1),(xd (xd s).2).2)
def spS (b:Nat)(s:St):Sp × St :=
 let g:=kS s;let h:=uA g.2;let i:=lx b h.2
 (⟨g.1,i.1,decide (h.1=1)⟩,i.2)
def qa8 (b:Nat):Nat→St→List Sp × St
 | 0,s=>([],s)
 | n+1,s=>((spS b s).1::(qa8 b n (spS b s).2).1,(qa8 b n (spS b s).2).2)
def tkS (b:Nat)(s:St):Tk × St :=
 let f:=uA s
 if f.1=1 then
  let x:=kS f.2;let y:=kS x.2;let n:=uA y.2;let a:=uA n.2;let i:=lx b a.2
  (⟨x.1,y.1,n.1,a.1,i.1⟩,i.2)
 else(yB,f.2)
def mS (s:St):Mt × St :=
 let k:=uA s;let b:=min k.1 100;let l:=lx b k.2;let c:=uA l.2;let ss:=qa8 b (min c.1 100) c.2;let t:=tkS b ss.2
 (⟨l.1,ss.1,t.1⟩,t.2)
def nt (s:List UInt8):Mt × Int:=if gW (mS (some s)).1=(s,0)then((mS (some s)).1,0)else(mt0,4)
theorem yC (n:Nat)(h:n<18446744073709551616)(r:List UInt8):xd (some (zx n++r))=(n,some r):=by
 unfold xd;simp only[uq n h]
theorem yD (n:Nat)(h:n≤1048576)(r:List UInt8):uA (some (zx n++r))=(n,some r):=by
 unfold uA;rw[yC n (by omega)];simp only[Nat.min_eq_left h]
def yu (l:List Int):Prop:=∀z∈l,0≤z∧z≤1048576
theorem aM:∀(l:List Int) (_:yu l) (r:List UInt8),lx l.length (some (zv l++r))=(l,some r)
 | [],_,r=>rfl
 | z::l,h,r=>by
  have hz:=h z (by simp);have e:zv (z::l)++r=zx z.toNat++(zv l++r):=by simp[zv,xJ]
  show lx (l.length+1) (some (zv (z::l)++r))=_;rw[e];unfold lx;rw[yD _ (by omega)];simp only;rw[aM l (fun x hx=>h x (by simp[hx])) r];simp only[Int.toNat_of_nonneg hz.1]
theorem vh (g:Gd)(h:xF g)(r:List UInt8):kS (some (jY g++r))=(g,some r):=by
 unfold kS jY;rw[List.append_assoc,yC _ h.1];simp only;rw[yC _ h.2]
def quT (b:Nat)(s:Sp):Prop:=xF s.g∧s.qu.length=b∧yu s.qu
theorem qqA(b:Nat)(s:Sp)(h:quT b s)(r:List UInt8):spS b (some (spB s++r))=(s,some r):=by
 obtain⟨h1,h2,h3⟩:=h;unfold spS spB;rw[List.append_assoc,vh _ h1];simp only;rw[List.append_assoc,yD _ (by split <;> omega)];simp only;rw[← h2,aM _ h3];cases s with|mk g qu hid=>cases hid <;> rfl
theorem qci(b:Nat):∀(l:List Sp) (_:∀s∈l,quT b s) (r:List UInt8),qa8 b l.length (some (ji l++r))=(l,some r)
 | [],_,r=>rfl
 | s::l,h,r=>by
  have e:ji (s::l)++r=spB s++(ji l++r):=by simp[ji]
  show qa8 b (l.length+1) (some (ji (s::l)++r))=_;rw[e];unfold qa8;rw[qqA b s (h s (by simp))];simp only;rw[qci b l (fun x hx=>h x (by simp[hx])) r]
def cY (b:Nat)(t:Tk):Prop:=if t.target=(0,0)then t=yB else xF t.base∧xF t.target∧(0≤t.next∧t.next≤1048576)∧(0≤t.all∧t.all≤1048576)∧t.qu.length=b∧yu t.qu
theorem qqB(b:Nat)(t:Tk)(h:cY b t)(r:List UInt8):tkS b (some (tkB t++r))=(t,some r):=by
 unfold cY at h;unfold tkB;by_cases h0:t.target=(0,0)
 ·rw[if_pos h0]at h ⊢;unfold tkS;rw[yD 0 (by omega),h];rfl
 ·rw[if_neg h0]at h ⊢;obtain⟨h1,h2,h3,h4,h5,h6⟩:=h;unfold tkS;simp only[List.append_assoc];rw[yD 1 (by omega)];simp only[if_true];rw[vh _ h1];simp only;rw[vh _ h2];simp only;unfold xJ;rw[yD _ (by omega)];simp only;rw[yD _ (by omega)];simp only;rw[← h5,aM _ h6];simp only[Int.toNat_of_nonneg h3.1,Int.toNat_of_nonneg h4.1]
structure qyV(m:Mt):Prop where
 b:m.live.length≤100
 live:yu m.live
 few:m.qc.length≤100
 qc:∀s∈m.qc,quT m.live.length s
 tok:cY m.live.length m.tok
theorem quU(m:Mt)(h:qyV m)(r:List UInt8):mS (some (zD m++r))=(m,some r):=by
 have hb:=h.b;have hf:=h.few;unfold mS zD;simp only[List.append_assoc];rw[yD _ (by omega)];simp only[Nat.min_eq_left hb];rw[aM _ h.live];simp only;rw[yD _ (by omega)];simp only[Nat.min_eq_left hf];rw[qci _ _ h.qc];simp only;rw[qqB _ _ h.tok]
theorem kg {l:List Int}{b n:Int}(h:zM l b n=0):1≤b∧b≤8∧(l.length:Int)=b∧∀z∈l,z=0∨(193≤z∧z<n):=by
 unfold zM at h;split at h
 ·cases h
 ·rename_i h1;split at h
  ·cases h
  ·rename_i h2;refine⟨by omega,by omega,by omega,fun z hz=>?_⟩;have hb:gV n z=false:=by
    cases hc:gV n z with
    | false=>rfl
    | true=>exact absurd (List.any_eq_true.2 ⟨z,hz,hc⟩) h2
   unfold gV at hb;by_cases hz0:z=0
   ·exact .inl hz0
   ·rw[decide_eq_true hz0,Bool.true_and]at hb;simp only[Bool.or_eq_false_iff,decide_eq_false_iff_not]at hb;exact .inr (by omega)
theorem qa9{l:List Int}{b:Int}(h:zM l b 1024=0):yu l:=fun z hz=>by
 rcases(kg h).2.2.2 z hz with h|h <;> omega
structure mB(m:Mt):Prop where
 qc:∀s∈m.qc,xF s.g
 base:xF m.tok.base
 target:xF m.tok.target
theorem nu {b n:Int}:∀ {l:List Sp} {last:Gd},(yc b n last l).1=0→∀s∈l,zM s.qu b n=0
 | [],_,_,s,hs=>absurd hs (by simp)
 | x::r,last,h,s,hs=>by
  unfold yc at h;split at h
  ·split at h
   ·rename_i h2;rcases List.mem_cons.1 hs with rfl|hs
    ·exact h2
    ·exact nu h s hs
   ·rename_i h2;exact absurd h h2
  ·cases h
theorem dD {m:Mt}(hB:mB m)(h:xx m m.live.length 1024=0):qyV m∧1≤m.live.length∧m.live.length≤8∧m.qc.length≤20:=by
 unfold xx at h;split at h
 ·rename_i h1;exact absurd h h1
 rename_i h1;have h1':zM m.live m.live.length 1024=0:=Classical.byContradiction h1;split at h
 ·cases h
 rename_i h2;split at h
 ·rename_i h3;exact absurd h h3
 rename_i h3;have h3':=Classical.byContradiction h3;have hl:=kg h1';refine⟨⟨by omega,qa9 h1',by omega,fun s hs=>?_,?_⟩,by omega,by omega,by omega⟩
 ·have:=nu h3' s hs;have hi:=kg this;exact⟨hB.qc s hs,by omega,qa9 this⟩
 ·unfold cY;unfold uz at h;split at h
  ·rename_i h4;rw[if_pos h4];split at h
   ·rename_i h5;unfold qa7 at h5;simp only[Bool.and_eq_true,decide_eq_true_eq]at h5;obtain⟨⟨⟨e1,e2⟩,e3⟩,e4⟩:=h5;generalize m.tok=t at *;cases t;simp only at e1 e2 e3 e4 h4;subst e1 e2 e3 e4 h4;rfl
   ·cases h
  ·rename_i h4;rw[if_neg h4];split at h
   ·cases h
   ·rename_i h5;unfold dC at h5;simp only[Bool.or_eq_true,not_or,Bool.not_eq_true,decide_eq_true_eq]at h5;obtain⟨⟨⟨⟨_,_⟩,e3⟩,e4⟩,e5⟩:=h5;have hi:=kg h;exact⟨hB.base,hB.target,by omega,by omega,by omega,qa9 h⟩
theorem qlS{m:Mt}{s:List UInt8}(h:gW m=(s,0)):xx m m.live.length 1024=0∧s=zD m∧nsec s.length≤48:=by
 unfold gW at h;split at h
 ·rename_i h1;exact absurd (Prod.mk.inj h).2 h1
 ·rename_i h1;split at h
  ·cases (Prod.mk.inj h).2
  ·rename_i h2;have:=(Prod.mk.inj h).1;exact⟨Classical.byContradiction h1,this.symm,by rw[← this];omega⟩
theorem qlT{m:Mt}{s:List UInt8}(hB:mB m)(h:gW m=(s,0))(r:List UInt8):mS (some (s++r))=(m,some r):=by
 obtain⟨h1,rfl,_⟩:=qlS h;exact quU m (dD hB h1).1 r
theorem qcj{m:Mt}{s:List UInt8}(hB:mB m)(h:gW m=(s,0)):nt s=(m,0):=by
 have:=qlT hB h [];rw[List.append_nil]at this;unfold nt;rw[this,if_pos h]
theorem qaA{m:Mt}{s:List UInt8}(h:nt s=(m,0)):gW m=(s,0)∧m=(mS (some s)).1:=by
 unfold nt at h;split at h
 ·rename_i h1;have:=(Prod.mk.inj h).1;rw[this]at h1;exact⟨h1,this.symm⟩
 ·cases (Prod.mk.inj h).2
theorem qqC(s:List UInt8):(∃m,nt s=(m,0))∨nt s=(mt0,4):=by
 unfold nt;split
 ·exact .inl ⟨_,rfl⟩
 ·exact .inr rfl
theorem qaB(s:St):(xd s).1<18446744073709551616:=by
 unfold xd;split
 ·decide
 ·split
  ·decide
  ·rename_i l n r h;exact(dB _ _ _ h).2
theorem sU (s:St):xF (kS s).1:=⟨qaB _,qaB _⟩
theorem qlU(b:Nat):∀(n:Nat) (s:St),∀x∈(qa8 b n s).1,xF x.g
 | 0,_,x,hx=>absurd hx (by simp[qa8])
 | n+1,s,x,hx=>by
  unfold qa8 at hx;simp only[List.mem_cons]at hx;rcases hx with rfl|hx
  ·exact sU _
  ·exact qlU b n _ x hx
theorem bS:xF (0,0):=⟨by decide,by decide⟩
theorem qt1(b:Nat)(s:St):xF (tkS b s).1.base∧xF (tkS b s).1.target:=by
 unfold tkS;dsimp only;split
 ·exact⟨sU _,sU _⟩
 ·exact⟨bS,bS⟩
theorem q44(s:St):mB (mS s).1:=⟨fun x hx=>qlU _ _ _ x hx,(qt1 _ _).1,(qt1 _ _).2⟩
theorem qyW{m:Mt}{s:List UInt8}(h:nt s=(m,0)):mB m:=by
 rw[(qaA h).2];exact q44 _
end Go.Proofs.YtdpbdkacngaemaaGreatDoor.mt
namespace Go.Proofs.YtdpbdkacngaemaaGreatDoor.mt.pg
open _root_.Go.Proofs.Tryz Go Go.RowKit im wi mt
def kP (k:Nat)(s:St):Nat × St:=(min (xd s).1 (k+1),(xd s).2)
def gX:Nat→St→List Int × St
 | 0,s=>([],s)
 | n+1,s=>(((kP 1024 s).1:Int)::(gX n (kP 1024 s).2).1,(gX n (kP 1024 s).2).2)
def nv (b:Nat)(s:St):Sp × St:=(⟨(kS s).1,(gX b (xd (kS s).2).2).1,decide ((xd (kS s).2).1=1)⟩,(gX b (xd (kS s).2).2).2)
def uB (b:Nat):Nat→St→List Sp × St
 | 0,s=>([],s)
 | n+1,s=>((nv b s).1::(uB b n (nv b s).2).1,(uB b n (nv b s).2).2)
def rV (b:Nat)(s:St):Tk × St :=
 (⟨(kS s).1,(kS (kS s).2).1,(kP 8 (kS (kS s).2).2).1,(kP 8 (kP 8 (kS (kS s).2).2).2).1,(gX b (kP 8 (kP 8 (kS (kS s).2).2).2).2).1⟩,(gX b (kP 8 (kP 8 (kS (kS s).2).2).2).2).2)
def lz (s:St):List Int × St:=gX (kP 8 s).1 (kP 8 s).2
def qeM (s:St):List Sp × St:=uB (kP 8 s).1 (kP 20 (lz s).2).1 (kP 20 (lz s).2).2
def mP (s:St):Mt:=⟨(lz s).1,(qeM s).1,if (xd (qeM s).2).1=1 then(rV (kP 8 s).1 (xd (qeM s).2).2).1 else yB⟩
theorem iz (k:Nat)(s:St):(kP k s).1≤k+1:=by unfold kP;dsimp only;omega
theorem ug:∀(n:Nat) (s:St),(gX n s).1.length=n
 | 0,_=>rfl
 | n+1,s=>by simp[gX,ug n]
theorem qaC:∀(n:Nat) (s:St),yu (gX n s).1
 | 0,_=>fun z hz=>absurd hz (by simp[gX])
 | n+1,s=>fun z hz=>by
  have h:=iz 1024 s;simp only[gX,List.mem_cons]at hz;rcases hz with rfl|hz
  ·omega
  ·exact qaC n _ z hz
theorem qck:∀(n:Nat) (s:St),gX (n+1) s=((gX n s).1++[((kP 1024 (gX n s).2).1:Int)],(kP 1024 (gX n s).2).2)
 | 0,s=>rfl
 | n+1,s=>by
  have ih:=qck n (kP 1024 s).2;show((((kP 1024 s).1:Int)::(gX (n+1) (kP 1024 s).2).1,(gX (n+1) (kP 1024 s).2).2):List Int × St)=_;rw[ih];rfl
theorem sV (b:Nat):∀(n:Nat) (s:St),uB b (n+1) s=((uB b n s).1++[(nv b (uB b n s).2).1],(nv b (uB b n s).2).2)
 | 0,s=>rfl
 | n+1,s=>by
  have ih:=sV b n (nv b s).2;show(((nv b s).1::(uB b (n+1) (nv b s).2).1,(uB b (n+1) (nv b s).2).2):List Sp × St)=_;rw[ih];rfl
theorem qlV(b:Nat)(s:St):yu (nv b s).1.qu∧(nv b s).1.qu.length=b∧xF (nv b s).1.g:=⟨qaC _ _,ug _ _,sU _⟩
theorem qaD(b:Nat):∀(n:Nat) (s:St),∀x∈(uB b n s).1,yu x.qu∧x.qu.length=b∧xF x.g
 | 0,_,x,hx=>absurd hx (by simp[uB])
 | n+1,s,x,hx=>by
  unfold uB at hx;simp only[List.mem_cons]at hx;rcases hx with rfl|hx
  ·exact qlV b s
  ·exact qaD b n _ x hx
theorem cZ (k n:Nat)(h:n≤k)(hk:k≤2000)(r:List UInt8):kP k (some (zx n++r))=(n,some r):=by
 unfold kP;rw[yC n (by omega)];simp only[Nat.min_eq_left (show n≤k+1 by omega)]
def tight (l:List Int):Prop:=∀z∈l,0≤z∧z≤1024
theorem mK:∀(l:List Int) (_:tight l) (r:List UInt8),gX l.length (some (zv l++r))=(l,some r)
 | [],_,r=>rfl
 | z::l,h,r=>by
  have hz:=h z (by simp);have e:zv (z::l)++r=zx z.toNat++(zv l++r):=by simp[zv,xJ]
  show gX (l.length+1) (some (zv (z::l)++r))=_;rw[e];unfold gX;rw[cZ 1024 _ (by omega) (by omega)];simp only;rw[mK l (fun x hx=>h x (by simp[hx])) r];simp only[Int.toNat_of_nonneg hz.1]
theorem qqD(b:Nat)(s:Sp)(h1:xF s.g)(h2:s.qu.length=b)(h3:tight s.qu)(r:List UInt8):nv b (some (spB s++r))=(s,some r):=by
 unfold nv spB;rw[List.append_assoc,vh _ h1];simp only;rw[List.append_assoc,yC _ (by split <;> omega)];simp only;rw[← h2,mK _ h3];cases s with|mk g qu hid=>cases hid <;> rfl
theorem qcl(b:Nat):∀(l:List Sp) (_:∀s∈l,xF s.g∧s.qu.length=b∧tight s.qu) (r:List UInt8),uB b l.length (some (ji l++r))=(l,some r)
 | [],_,r=>rfl
 | s::l,h,r=>by
  have e:ji (s::l)++r=spB s++(ji l++r):=by simp[ji]
  have hs:=h s (by simp);show uB b (l.length+1) (some (ji (s::l)++r))=_;rw[e];unfold uB;rw[qqD b s hs.1 hs.2.1 hs.2.2];simp only;rw[qcl b l (fun x hx=>h x (by simp[hx])) r]
structure qt2(m:Mt):Prop where
 b:m.live.length≤8
 live:tight m.live
 few:m.qc.length≤20
 qc:∀s∈m.qc,xF s.g∧s.qu.length=m.live.length∧tight s.qu
 tok:if m.tok.target=(0,0)then m.tok=yB else xF m.tok.base∧xF m.tok.target∧(0≤m.tok.next∧m.tok.next≤8)∧(0≤m.tok.all∧m.tok.all≤8)∧m.tok.qu.length=m.live.length∧tight m.tok.qu
theorem qqE(b:Nat)(t:Tk)(h:xF t.base∧xF t.target∧(0≤t.next∧t.next≤8)∧(0≤t.all∧t.all≤8)∧t.qu.length=b∧tight t.qu)(r:List UInt8) :
    rV b (some ((jY t.base++(jY t.target++(xJ t.next++(xJ t.all++zv t.qu))))++r))=(t,some r):=by
 obtain⟨h1,h2,h3,h4,h5,h6⟩:=h;unfold rV;simp only[List.append_assoc];rw[vh _ h1];simp only;rw[vh _ h2];simp only;unfold xJ;rw[cZ 8 _ (by omega) (by omega)];simp only;rw[cZ 8 _ (by omega) (by omega)];simp only;rw[← h5,mK _ h6];simp only[Int.toNat_of_nonneg h3.1,Int.toNat_of_nonneg h4.1]
theorem quW(m:Mt)(h:qt2 m):mP (some (zD m))=m:=by
 have h1:kP 8 (some (zD m))=(m.live.length,some (zv m.live++(zx m.qc.length++(ji m.qc++tkB m.tok)))):=by
  unfold zD;exact cZ 8 _ h.b (by omega) _
 have h2:lz (some (zD m))=(m.live,some (zx m.qc.length++(ji m.qc++tkB m.tok))):=by
  unfold lz;rw[h1];exact mK _ h.live _
 have h3:qeM (some (zD m))=(m.qc,some (tkB m.tok)):=by
  unfold qeM;rw[h2,h1,cZ 20 _ h.few (by omega)];exact qcl _ _ h.qc _
 unfold mP;rw[h3,h2,h1];dsimp only;have ht:=h.tok;unfold tkB;by_cases h0:m.tok.target=(0,0)
 ·rw[if_pos h0]at ht;rw[if_pos h0];have:=yC 0 (by omega) [];rw[List.append_nil]at this;rw[this,if_neg (by decide),← ht]
 ·rw[if_neg h0]at ht;rw[if_neg h0,yC 1 (by omega)];simp only[if_true];have:=qqE m.live.length m.tok ht [];rw[List.append_nil]at this;rw[this]
theorem qlW{m:Mt}(hB:mB m)(h:xx m m.live.length 1024=0):qt2 m:=by
 obtain⟨hok,hl1,hl8,q45⟩:=dD hB h;unfold xx at h;split at h
 ·rename_i h1;exact absurd h h1
 rename_i h1;have h1':zM m.live m.live.length 1024=0:=Classical.byContradiction h1;split at h
 ·cases h
 split at h
 ·rename_i h3;exact absurd h h3
 rename_i h3;have h3':=Classical.byContradiction h3;have tg:∀ {l:List Int} {b:Int},zM l b 1024=0→tight l:=fun h z hz=>by
  rcases(kg h).2.2.2 z hz with h|h <;> omega
 refine⟨hl8,tg h1',q45,fun s hs=>?_,?_⟩
 ·have:=nu h3' s hs;have hi:=kg this;exact⟨hB.qc s hs,by omega,tg this⟩
 ·have ht:=hok.tok;unfold cY at ht;unfold uz at h;by_cases h4:m.tok.target=(0,0)
  ·rw[if_pos h4]at ht ⊢;exact ht
  ·rw[if_neg h4]at h ⊢;split at h
   ·cases h
   ·rename_i h5;unfold dC at h5;simp only[Bool.or_eq_true,not_or,Bool.not_eq_true,decide_eq_true_eq]at h5;obtain⟨⟨⟨⟨_,_⟩,e3⟩,e4⟩,e5⟩:=h5;have hi:=kg h;exact⟨hB.base,hB.target,by omega,by omega,by omega,tg h⟩
theorem qlX(b:Nat)(s:St):xF (rV b s).1.base∧xF (rV b s).1.target:=⟨sU _,sU _⟩
theorem q46(s:St):mB (mP s):=by
 refine⟨fun x hx=>(qaD _ _ _ x hx).2.2,?_,?_⟩
 ·show xF (if _ then _ else yB:Tk).base;split
  ·exact(qlX _ _).1
  ·exact bS
 ·show xF (if _ then _ else yB:Tk).target;split
  ·exact(qlX _ _).2
  ·exact bS
theorem quX(s:List UInt8):nt s=if gW (mP (some s))=(s,0)then(mP (some s),0)else(mt0,4):=by
 by_cases h:gW (mP (some s))=(s,0)
 ·rw[if_pos h];exact qcj (q46 _) h
 ·rw[if_neg h];rcases qqC s with⟨m,h1⟩|h1
  ·exfalso;have h2:=(qaA h1).1;have h3:=qlS h2;apply h;rw[h3.2.1,quW m (qlW (qyW h1) h3.1),← h3.2.1];exact h2
  ·exact h1
end Go.Proofs.YtdpbdkacngaemaaGreatDoor.mt.pg
namespace Go.Proofs
open _root_.Go.Proofs.Tryz Go.Shelf
def Tryz.qcm:Go.Shelf.Ren:=⟨fun | 129=>295|n=>n,fun | 53=>36 | 3=>3 | 4=>4 | 46=>281 | 5=>5 | 9=>9|n=>n,fun|n=>n⟩
theorem Tryz.qqF:Go.Proofs.Lays.n129 prog Tryz.qcm:={
 mixed:=by kernel_rfl
 f129:=func295.trans (congrArg some (by kernel_rfl))
 t3:=underlying3
 a3:=isAgg3
 z3:=sizeOf3
 v3:=zeroValue3
 t4:=underlying4
 a4:=isAgg4
 z4:=sizeOf4
 v4:=zeroValue4
 t5:=underlying5
 a5:=isAgg5
 z5:=sizeOf5
 v5:=zeroValue5
 t9:=underlying9
 a9:=isAgg9
 z9:=sizeOf9
 v9:=zeroValue9
 t46:=underlying281
 a46:=isAgg281
 z46:=sizeOf281
 v46:=zeroValue281
 t53:=underlying36
 a53:=isAgg36
 z53:=sizeOf36
 v53:=zeroValue36 }
theorem Tryz.bits_Len64(x:Int)(w:World)(h0:0≤x)(h1:x≤18446744073709551615) :
    Calls prog 295 #[.int .u64 x] w fun e w'=>e=.returned (.int .i64 (Lib.bitLen x.toNat))∧w'=w:=Any.bits_Len64 Tryz.qqF x w h0 h1
def Tryz.lA:Go.Shelf.Ren:=⟨fun | 166=>235 | 240=>273 | 276=>289|n=>n,fun | 0=>0 | 3=>3 | 4=>4 | 9=>9 | 20=>20 | 37=>64 | 70=>294 | 72=>296 | 75=>298 | 164=>345 | 5=>5 | 80=>226|n=>n,fun|n=>n⟩
theorem Tryz.qqG:Go.Proofs.Lays.n166 prog Tryz.lA:={
 mixed:=by kernel_rfl
 f166:=func235.trans (congrArg some (by kernel_rfl))
 f240:=func273.trans (congrArg some (by kernel_rfl))
 f276:=func289.trans (congrArg some (by kernel_rfl))
 t0:=underlying0
 a0:=isAgg0
 z0:=sizeOf0
 v0:=zeroValue0
 t3:=underlying3
 a3:=isAgg3
 z3:=sizeOf3
 v3:=zeroValue3
 t4:=underlying4
 a4:=isAgg4
 z4:=sizeOf4
 v4:=zeroValue4
 t9:=underlying9
 a9:=isAgg9
 z9:=sizeOf9
 v9:=zeroValue9
 t20:=underlying20
 a20:=isAgg20
 z20:=sizeOf20
 v20:=zeroValue20
 t37:=underlying64
 a37:=isAgg64
 z37:=sizeOf64
 v37:=zeroValue64
 t70:=underlying294
 a70:=isAgg294
 z70:=sizeOf294
 v70:=zeroValue294
 t72:=underlying296
 a72:=isAgg296
 z72:=sizeOf296
 v72:=zeroValue296
 t75:=underlying298
 a75:=isAgg298
 z75:=sizeOf298
 v75:=zeroValue298
 t164:=underlying345
 a164:=isAgg345
 z164:=sizeOf345
 v164:=zeroValue345 }
theorem Tryz.ed:Builder.Extra prog Tryz.lA:={
 sizeBuilder:=by kernel_rfl
 liesBuilder:=by kernel_rfl
 t5:=underlying5
 a5:=isAgg5
 z5:=sizeOf5
 v5:=zeroValue5
 infoByte:=by kernel_rfl
 cellsByte:=by kernel_rfl
 sizeByte:=by kernel_rfl
 neB5:=by decide }
open Go.RowKit in
theorem Tryz.Builder_WriteString(B b:Nat)(bs:List Value)(s:ByteArray)(w:World)(h:Lib.IsBuilder 296 5 B b bs w)(hlen:bs.length+s.size≤140737488355328)(hBw:B≤w.heap.size) :
    Calls prog 235 #[.pointer (some ⟨b,0,none⟩),.string s] w fun e w'=>e=.returned (.tuple #[.int .i64 s.size,.nilIface])∧(Lib.BuilderAt 296 5 B b (.pointer (some ⟨b,0,none⟩)) (bs++Lib.strCells s) w'∧Below B w w'):=Any.Builder_WriteString Tryz.qqG Tryz.ed B b bs s w h hlen hBw
def Tryz.lB:Go.Shelf.Ren:=⟨fun | 169=>237|n=>n,fun | 70=>294 | 9=>9 | 0=>0 | 72=>296 | 37=>64 | 127=>330 | 3=>3 | 5=>5|n=>n,fun|n=>n⟩
theorem Tryz.qqH:Go.Proofs.Lays.n169 prog Tryz.lB:={
 mixed:=by kernel_rfl
 f169:=func237.trans (congrArg some (by kernel_rfl))
 t0:=underlying0
 a0:=isAgg0
 z0:=sizeOf0
 v0:=zeroValue0
 t3:=underlying3
 a3:=isAgg3
 z3:=sizeOf3
 v3:=zeroValue3
 t9:=underlying9
 a9:=isAgg9
 z9:=sizeOf9
 v9:=zeroValue9
 t37:=underlying64
 a37:=isAgg64
 z37:=sizeOf64
 v37:=zeroValue64
 t70:=underlying294
 a70:=isAgg294
 z70:=sizeOf294
 v70:=zeroValue294
 t72:=underlying296
 a72:=isAgg296
 z72:=sizeOf296
 v72:=zeroValue296
 t127:=underlying330
 a127:=isAgg330
 z127:=sizeOf330
 v127:=zeroValue330 }
theorem Tryz.ee:Builder.Extra prog Tryz.lB:={
 sizeBuilder:=by kernel_rfl
 liesBuilder:=by kernel_rfl
 t5:=underlying5
 a5:=isAgg5
 z5:=sizeOf5
 v5:=zeroValue5
 infoByte:=by kernel_rfl
 cellsByte:=by kernel_rfl
 sizeByte:=by kernel_rfl
 neB5:=by decide }
open Go.RowKit in
theorem Tryz.Builder_String_any(B b:Nat)(l:List UInt8)(w:World)(h:Lib.IsBuilder 296 5 B b (Lib.byteCells l) w)(hBw:B≤w.heap.size) :
    Calls prog 237 #[.pointer (some ⟨b,0,none⟩)] w fun e w'=>e=.returned (.string ⟨l.toArray⟩)∧Below B w w':=Any.Builder_String_any Tryz.qqH Tryz.ee B b l w h hBw
end Go.Proofs
namespace Go.Proofs.YtdpbdkacngaemaaGreatDoor
open _root_.Go.Proofs.Tryz Go.RowKit
theorem Tryz.qlY:(prog.info? 9).map (fun i=>(i.zero,i.size,i.bytes))=some (some (.string ByteArray.empty),1,16):=by kernel_rfl
theorem Tryz.ny:(prog.info? 5).map (fun i=>(i.zero,i.size,i.bytes))=some (some (.int .u8 0),1,1):=by kernel_rfl
end Go.Proofs.YtdpbdkacngaemaaGreatDoor
namespace Go.Proofs.YtdpbdkacngaemaaGreatDoor.wi
open _root_.Go.Proofs.Tryz Go.RowKit
theorem sW (n:Int)(w:World)(h0:0≤n)(h1:n≤18446744073709551615) :
    Calls prog 291 #[.int .u64 n] w fun e w'=>e=.returned (.int .i64 ((zI n.toNat).length:Nat))∧w=w':=by
 have hc:=count_eq n.toNat (by omega);have hb:Lib.bitLen n.toNat≤64:=Lib.bitLen_le _ 64 (by omega) (by omega);have e1:((zI n.toNat).length:Int)=((Lib.bitLen n.toNat:Nat)+7:Int)/8:=by omega
 have E1:=QH e1;clear e1 hc;go_enter func291,ntmps291;go_wp2_with (go_at_call 295;refine(Tryz.bits_Len64 n _ h0 h1).mono ?_;rintro e w' ⟨rfl,rfl⟩);go_ret;exact⟨by rw[E1.out];rfl,rfl⟩
def qlZ (n:Nat)(w:World)(e:Ending)(w':World):Prop :=
 e=.returned (.string (str [UInt8.ofNat (zI n).length]))∧Below w.heap.size w w'
theorem qyX(k:Nat)(hk:k<256)(w:World) :
    (convert 64 9 (.slice (some ⟨w.heap.size,0,none⟩) 1 1)).run prog (w.alloc (.cells #[.int .u8 (k:Int)] 5))=.ok (.string (str [UInt8.ofNat k])) (w.alloc (.cells #[.int .u8 (k:Int)] 5)):=by
 refine run_convert_bytes_back (P:=prog) _ 64 9 5 ⟨w.heap.size,0,none⟩ 1 [UInt8.ofNat k] underlying64 underlying5 underlying9 ?_;intro j hj;have:j=0:=by simpa using hj
 subst this;have e:(UInt8.ofNat k).toNat=k:=kI k hk;simp[Addr.add,e,World.cell?,World.alloc,-World.alloc_eq]
theorem eo (n:Int)(w:World)(h0:0≤n)(h1:n≤18446744073709551615) :
    Calls prog 277 #[.int .u64 n] w (qlZ n.toNat w):=by
 have hl:=jM n.toNat;have hcv:=qyX (zI n.toNat).length (by omega) w;go_enter func277,ntmps277;go_wp2_with (go_at_call 291;refine(sW n _ h0 h1).mono ?_;rintro e w' ⟨rfl,rfl⟩);go_ret;exact⟨rfl,(Below.refl _ _).alloc (Nat.le_refl _) _⟩
def jk (D:List UInt8)(k:Nat):List Value:=List.replicate k (.int .u8 0)++Lib.byteCells (D.drop k)
def qcn (n:Nat)(w:World)(e:Ending)(w':World):Prop :=
 e=.returned (.string (str (zI n)))∧Below w.heap.size w w'
def quY (D:List UInt8)(w:World)(n i:Value)(wr:World):Prop :=
 ∃k m:Nat,i=.int .i64 ((k:Int)-1)∧n=.int .u64 (m:Int)∧m<18446744073709551616∧zI m=D.take k∧k≤D.length ∧
  wr.ownsRow w.heap.size 5 1 (.slice (some ⟨w.heap.size,0,none⟩) D.length D.length) D.length (jk D k)∧Below w.heap.size w wr
theorem qaE(D:List UInt8)(k:Nat)(h:k<D.length):(jk D (k+1)).set k (.int .u8 (D[k].toNat:Int))=jk D k:=by
 unfold jk;rw[List.replicate_succ',List.append_assoc,List.set_append_right _ _ (by simp),List.length_replicate,Nat.sub_self,List.drop_eq_getElem_cons h];rfl
theorem qma(D:List UInt8)(m k:Nat)(hm:m<18446744073709551616)(hk:k<D.length)(h:zI m=D.take (k+1)) :
    m≠0∧zI (m/256)=D.take k∧D[k].toNat=m%256:=by
 have h0:m≠0:=by
  intro e;subst e;have:=congrArg List.length h;simp[qi6]at this;omega
 have e:=qlO m h0 hm;rw[h,List.take_succ_eq_append_getElem hk]at e;have e':=List.append_inj' e rfl;refine⟨h0,e'.1.symm,?_⟩;have:=e'.2;simp at this;rw[this,kI _ (by omega)]
theorem nz (n:Int)(w:World)(h0:0≤n)(h1:n≤18446744073709551615) :
    Calls prog 278 #[.int .u64 n] w (qcn n.toNat w):=by
 have hl:=jM n.toNat;obtain⟨i0,hi,hz0,hz1,hz2⟩:=info_parts Tryz.ny;have hmk:=run_make (P:=prog) w 64 5 i0 (.int .u8 0) underlying64 hi hz0 .i64 .i64 ((zI n.toNat).length:Int) ((zI n.toNat).length:Int) (by omega) (by omega) (by rw[hz2];omega) (by omega);have qmb:(w.alloc (.cells (madeCells #[.int .u8 0] (zI n.toNat).length) 5)).ownsRow w.heap.size 5 1 (.slice (some ⟨w.heap.size,0,none⟩) (zI n.toNat).length (zI n.toNat).length) (zI n.toNat).length (jk (zI n.toNat) (zI n.toNat).length):=by
  have:=World.ownsRow_lit (e:=5) (size:=1) (base:=w.heap.size) w (madeCells #[.int .u8 0] (zI n.toNat).length) (zI n.toNat).length (Nat.le_refl _) (by unfold maxLen;omega) (by simp[size_madeCells]);have e:(madeCells #[.int .u8 0] (zI n.toNat).length).toList=jk (zI n.toNat) (zI n.toNat).length:=by
   apply List.ext_getElem?;intro j;by_cases hj:j<(zI n.toNat).length <;> simp[madeCells,jk,Lib.byteCells,hj,Nat.mod_one]
  rw[← e];exact this
 have hb0:Below w.heap.size w (w.alloc (.cells (madeCells #[.int .u8 0] (zI n.toNat).length) 5)):=(Below.refl _ _).alloc (Nat.le_refl _) _;have hn:((n.toNat:Nat):Int)=n:=by omega
 have Hn:=QH hn;clear hn;rw[hz1]at hmk;clear hi hz0 hz1 hz2;go_enter func278,ntmps278;go_wp2_with (go_at_call 291;refine(sW n _ h0 h1).mono ?_;rintro e w' ⟨rfl,rfl⟩);go_loopw [0,4] (fun n' i wr=>quY (zI n.toNat) w n' i wr) (fun _ i _=>(intOf i+1).toNat);case atStart=>exact⟨(zI n.toNat).length,n.toNat,rfl,by rw[Hn.out],by omega,by simp,Nat.le_refl _,qmb,hb0⟩
 case round =>
  obtain⟨k,m,rfl,rfl,hm,hd,hk,hown,hb⟩:=hrel;cases k with
  | zero =>
   have hcv:=run_convert_bytes_back (P:=prog) wr 64 9 5 ⟨w.heap.size,0,none⟩ (zI n.toNat).length (zI n.toNat) underlying64 underlying5 underlying9 (by
    intro j hj;have:=hown.cellAt j (by omega);rw[addr_add,Nat.zero_add,this];simp[jk,Lib.byteCells,List.getElem?_eq_getElem hj])
   have qyY:(convert 64 9 (.slice (some ⟨w.heap.size,0,none⟩) (zI n.toNat).length (zI n.toNat).length)).run prog wr=.ok (.string (str (zI n.toNat))) wr:=hcv;clear hcv;go_wp2;go_ret;exact⟨rfl,hb⟩
  | succ k =>
   have hx:=hown.cellAt k (by omega);rw[show(jk (zI n.toNat) (k+1))[k]?=some (.int .u8 0)from by simp[jk,List.getElem?_append]]at hx;have hf:=hown.frozenAt k;have hs:=hown.stored k (.int .u8 (((zI n.toNat)[k]'(by omega)).toNat:Int));rw[qaE _ _ (by omega)]at hs;obtain⟨hs1,hs2⟩:=hs;obtain⟨hm0,hd',bC⟩:=qma (zI n.toNat) m k hm (by omega) hd;have Hs1:=QH hs1;have Hs2:=QH hs2;have Hd:=QH hd';have Hl:=QH bC;clear hs1 hs2 hd' bC hd hown;go_wp2;have e:((m:Int)%256)=(((zI n.toNat)[k]'(by omega)).toNat:Int):=by rw[Hl.out];omega
   rw[e];exact⟨⟨k,m/256,rfl,rfl,by omega,Hd.out,by omega,Hs1.out,hb.grown Hs2.out (by have:=hb.size;omega) (fun j hj=>by cases hj;exact Nat.le_refl _)⟩,by simp[intOf]⟩
theorem qmc(n:Nat)(w:World)(h:n<18446744073709551616):Calls prog 277 #[.int .u64 (n:Int)] w (qlZ n w):=by
 have:=eo (n:Int) w (by omega) (by omega)
 rwa [Int.toNat_natCast]at this
theorem qeN(n:Nat)(w:World)(h:n<18446744073709551616):Calls prog 278 #[.int .u64 (n:Int)] w (qcn n w):=by
 have:=nz (n:Int) w (by omega) (by omega)
 rwa [Int.toNat_natCast]at this
def et (w:World)(b o:Nat)(ps:List ByteArray):Prop:=∀i (h:i<ps.length),w.cell? ⟨b,o+i,none⟩=some (.string ps[i])
def qza (s:ByteArray)(ps:List ByteArray)(w:World)(e:Ending)(w':World):Prop :=
 e=.returned (.string (str (bl s++flat ps)))∧Below w.heap.size w w'
def qeO (s:ByteArray)(ps:List ByteArray)(w:World)(i:Value)(wr:World):Prop :=
 ∃k:Nat,k≤ps.length∧i=.int .i64 (k:Int)∧Lib.IsBuilder 296 5 w.heap.size w.heap.size (Lib.byteCells (bl s++flat (ps.take k))) wr∧Below w.heap.size w wr
theorem kA (s:ByteArray)(b o c:Nat)(ps:List ByteArray)(w:World)(hb:b<w.heap.size)(hc:et w b o ps)(hl:ps.length≤1000000)(hs:s.size+(flat ps).length≤140737488355328) :
    Calls prog 276 #[.string s,.slice (some ⟨b,o,none⟩) ps.length c] w (qza s ps w):=by
 have h0:Lib.IsBuilder 296 5 w.heap.size w.heap.size [] (w.alloc (.cells #[.pointer none,.slice none 0 0] 296)):=Lib.fresh_isBuilder 296 5 w;have b0:Below w.heap.size w (w.alloc (.cells #[.pointer none,.slice none 0 0] 296)):=(Below.refl _ w).alloc (Nat.le_refl _) _;go_enter func276,ntmps276;go_wp2_with (go_at_call 235;refine(Tryz.Builder_WriteString w.heap.size w.heap.size [] s _ h0 (by simp;omega) b0.size).mono ?_);rintro e W1 ⟨rfl,h1,b1⟩;have h1':Lib.IsBuilder 296 5 w.heap.size w.heap.size (Lib.byteCells (bl s)) W1:=by
  rw[List.nil_append,Lib.strCells_eq]at h1;exact Or.inr h1
 have b1':=b0.trans b1;clear h1 b1 h0 b0;go_wp2;go_loopw [12] (fun i wr=>qeO s ps w i wr) (fun i _=>ps.length-(intOf i).toNat);case atStart=>exact⟨0,Nat.zero_le _,rfl,by simpa[flat]using h1',b1'⟩
 case round =>
  obtain⟨k,hk,rfl,hI,hB⟩:=hrel;by_cases hlt:k<ps.length
  ·have hcell:wr.cell? ⟨b,o+k,none⟩=some (.string ps[k]):=by
      rw[hB.cell (p:=⟨b,o+k,none⟩) hb];exact hc k hlt
   have gY:=qi9 ps k hlt;have hfm:=rU ps (k+1);have hbl:=zn s;have hbp:=zn ps[k];have hlen:(Lib.byteCells (bl s++flat (ps.take k))).length+ps[k].size≤140737488355328:=by
    rw[Lib.byteCells_length];rw[gY]at hfm;simp at hfm ⊢;omega
   have Hfl:=QH gY;clear gY hfm hbl hbp;go_wp2_with (go_at_call 235;refine(Tryz.Builder_WriteString w.heap.size w.heap.size _ ps[k] _ hI hlen hB.size).mono ?_);rintro e W2 ⟨rfl,h2,b2⟩;have h2':Lib.IsBuilder 296 5 w.heap.size w.heap.size (Lib.byteCells (bl s++flat (ps.take (k+1)))) W2:=by
    rw[Lib.strCells_eq,← Lib.byteCells_append]at h2;rw[Hfl.out,← List.append_assoc];exact Or.inr h2
   have b2':=hB.trans b2;clear h2 b2 hI hB;go_wp2;go_roundw;case rel=>exact⟨k+1,by omega,by go_num,h2',b2'⟩
   case measure=>simp[intOf];omega
  ·have dE:k=ps.length:=by omega
   subst dE;rw[List.take_length]at hI;go_wp2_with (go_at_call 237;refine(Tryz.Builder_String_any w.heap.size w.heap.size _ _ hI hB.size).mono ?_);rintro e W2 ⟨rfl,b2⟩;have b2':=hB.trans b2;clear b2 hI hB;go_wp2;go_ret;exact⟨rfl,b2'⟩
theorem eu (ps:List ByteArray)(w:World):et (w.alloc (.cells (ps.map Value.string).toArray 9)) w.heap.size 0 ps:=by
 intro i h;simp[World.cell?,World.alloc,-World.alloc_eq]
theorem qaF(a b:ByteArray)(w:World):et (w.alloc (.cells #[.string a,.string b] 9)) w.heap.size 0 [a,b]:=eu [a,b] w
theorem nA (a b c:ByteArray)(w:World):et (w.alloc (.cells #[.string a,.string b,.string c] 9)) w.heap.size 0 [a,b,c]:=eu [a,b,c] w
def qco (s:ByteArray)(n:Nat)(w:World)(e:Ending)(w':World):Prop :=
 e=.returned (.string (str (bl s++zx n)))∧Below w.heap.size w w'
theorem qeP(s:ByteArray)(n:Int)(w:World)(h0:0≤n)(h1:n≤18446744073709551615)(hs:s.size≤140737488355000) :
    Calls prog 250 #[.string s,.int .u64 n] w (qco s n.toNat w):=by
 have hl:=jM n.toNat;go_enter func250,ntmps250;go_wp2_with (go_at_call 277;refine(eo n _ h0 h1).mono ?_);rintro e W1 ⟨rfl,b1⟩;go_wp2_with (go_at_call 278;refine(nz n _ h0 h1).mono ?_);rintro e W2 ⟨rfl,b2⟩;go_wp2_with (go_at_call 276;refine(kA s W2.heap.size 0 2 [str [UInt8.ofNat (zI n.toNat).length],str (zI n.toNat)] _ ?_ (qaF _ _ _) (by simp) ?_).mono ?_)
 ·simp
 ·simp[flat,zC];omega
 ·rintro e W3 ⟨rfl,b3⟩;have b':=qa (zR (qa b1 b2) _) b3;clear b1 b2 b3;go_wp2;go_ret;exact⟨by simp[flat,zC,zx],b'⟩
theorem kh (s:ByteArray)(n:Nat)(w:World)(h:n<18446744073709551616)(hs:s.size≤140737488355000) :
    Calls prog 250 #[.string s,.int .u64 (n:Int)] w (qco s n w):=by
 have:=qeP s (n:Int) w (by omega) (by omega) hs
 rwa [Int.toNat_natCast]at this
theorem x9 {w w1 w2:World}{r:Option Nat}(h:w.grownBy w1 r)(k:w1.grownBy w2 r):w.grownBy w2 r :=
 ⟨k.os.trans h.os,k.tape.trans h.tape,k.output.trans h.output,Nat.le_trans h.size k.size,
  fun i hi hr=>(k.block i (Nat.lt_of_lt_of_le hi h.size) hr).trans (h.block i hi hr)⟩
theorem ki (w:World)(r:Option Nat):w.grownBy w r:=⟨rfl,rfl,rfl,Nat.le_refl _,fun _ _ _=>rfl⟩
theorem qcp(l:List UInt8)(k:Nat)(h:k<l.length):val (l.take (k+1))=val (l.take k)*256+l[k].toNat:=by
 rw[List.take_succ_eq_append_getElem h,np]
def Row (w:World)(g o:Nat)(l:List UInt8):Prop :=
 ∃cs fr,w.heap[g]?=some (.cells cs 5 fr)∧∀i (h:i<l.length),cs[o+i]?=some (.int .u8 (l[i].toNat:Int))
def qeQ (b g o cap:Nat)(l:List UInt8)(bad:Bool)(w:World):Prop :=
 w.heap[b]?=some (.cells #[.slice (some ⟨g,o,none⟩) l.length cap,.bool bad] 274 (0,0))∧Row w g o l∧l.length≤cap∧l.length≤140737488355328
def zw (b:Nat)(l:List UInt8)(bad:Bool)(w:World):Prop:=∃g o cap,qeQ b g o cap l bad w
theorem uC {w:World}{b:Nat}{o:Obj}(h:w.heap[b]?=some o):b<w.heap.size:=by
 rcases Nat.lt_or_ge b w.heap.size with h' | h'
 ·exact h'
 ·simp[Array.getElem?_eq_none h']at h
theorem Row.cell{w:World}{g o:Nat}{l:List UInt8}(h:Row w g o l)(i:Nat)(hi:i<l.length):w.cell? ⟨g,o+i,none⟩=some (.int .u8 (l[i].toNat:Int)):=by
 obtain⟨cs,fr,hg,hc⟩:=h;simp[World.cell?,hg,hc i hi]
theorem Row.keep{w w':World}{g o:Nat}{l:List UInt8}(h:Row w g o l)(hk:w'.heap[g]?=w.heap[g]?):Row w' g o l:=by
 obtain⟨cs,fr,hg,hc⟩:=h;exact⟨cs,fr,hk.trans hg,hc⟩
theorem Row.drop{w:World}{g o:Nat}{l:List UInt8}(h:Row w g o l)(n:Nat):Row w g (o+n) (l.drop n):=by
 obtain⟨cs,fr,hg,hc⟩:=h;refine⟨cs,fr,hg,fun i hi=>?_⟩;have:=hc (n+i) (by simp at hi;omega);rw[Nat.add_assoc,this];simp
theorem Row.take{w:World}{g o:Nat}{l:List UInt8}(h:Row w g o l)(n:Nat):Row w g o (l.take n):=by
 obtain⟨cs,fr,hg,hc⟩:=h;refine⟨cs,fr,hg,fun i hi=>?_⟩;have:=hc i (by simp at hi;omega);rw[this];simp
theorem Row.nil0{w:World}{g o:Nat}{l:List UInt8}(h:Row w g o l)(o':Nat):Row w g o' []:=by
 obtain⟨cs,fr,hg,_⟩:=h;exact⟨cs,fr,hg,fun i hi=>by simp at hi⟩
theorem zw.keep{b c:Nat}{l m:List UInt8}{x y:Bool}{w w':World}(h:zw b l x w)(k:zw c m y w)(hne:b≠c)(hg:w.grownBy w' (some c)):zw b l x w':=by
 obtain⟨g,o,cap,hb,hr,h1,h2⟩:=h;obtain⟨_,_,_,hc,_⟩:=k;have hgc:g≠c:=by
  intro e;subst e;obtain⟨cs,fr,hg',_⟩:=hr;rw[hc]at hg';simp at hg'
 have jX:g<w.heap.size:=by obtain⟨cs,fr,hg',_⟩:=hr;exact uC hg'
 exact⟨g,o,cap,(hg.block b (uC hb) (by simpa using hne)).trans hb,hr.keep (hg.block g jX (by simpa using hgc)),h1,h2⟩
theorem zw.below{b:Nat}{l:List UInt8}{x:Bool}{w w':World}(h:zw b l x w)(hg:Below w.heap.size w w'):zw b l x w':=by
 obtain⟨g,o,cap,hb,hr,h1,h2⟩:=h;have jX:g<w.heap.size:=by obtain⟨cs,fr,hg',_⟩:=hr;exact uC hg'
 exact⟨g,o,cap,(hg.block b (uC hb)).trans hb,hr.keep (hg.block g jX),h1,h2⟩
theorem zw.lt{b:Nat}{l:List UInt8}{x:Bool}{w:World}(h:zw b l x w):b<w.heap.size:=by
 obtain⟨_,_,_,hb,_⟩:=h;exact uC hb
def qzb (s:ByteArray)(w:World)(e:Ending)(w':World):Prop :=
 ∃b,e=.returned (.pointer (some ⟨b,0,none⟩))∧w.heap.size≤b∧zw b (bl s) false w'∧Below w.heap.size w w'
theorem qaG(s:ByteArray)(w:World)(hs:s.size≤140737488355328) :
    Calls prog 125 #[.string s] w (qzb s w):=by
 have hcv:=Lib.run_convert_string_bytes (P:=prog) w 9 64 5 s underlying9 underlying64 underlying5;have hsz:=Lib.bytesWorld_size w 5 s;have hnew:=Lib.bytesWorld_at_new w 5 s;have hold:=Lib.bytesWorld_at_old w 5 s;have qaH:=grownCap_ge w s.size 0 5;have hcell:∀i (h:i<(bl s).length),(Lib.bytesCells w 5 s)[0+i]?=some (.int .u8 ((bl s)[i].toNat:Int)):=by
  intro i hi;have hi':i<s.size:=by rw[← zn];exact hi
  have:=Lib.bytesWorld_cell w 5 s i hi';simp[World.cell?,hnew]at this;rw[Nat.zero_add,this];simp[bl,hi']
 have hos:(Lib.bytesWorld w 5 s).os=w.os∧(Lib.bytesWorld w 5 s).tape=w.tape∧(Lib.bytesWorld w 5 s).output=w.output:=⟨rfl,rfl,rfl⟩;have bq:Below w.heap.size w (Lib.bytesWorld w 5 s):=⟨hos.1,hos.2.1,hos.2.2,by omega,fun k hk=>hold k hk⟩;have hlen:=zn s;generalize Lib.bytesWorld w 5 s=W1 at *;generalize grownCap w s.size 0 5=cap at *;have Hsz:=QH hsz;have q4A:=QH hnew;have qzc:=QH hcell;have q4B:=QH hlen;clear hsz hnew hcell hold hos hlen;go_enter func125,ntmps125;go_wp2;go_ret;have Hl:=q4B.out;have hW:(W1.alloc (.cells #[.slice (some ⟨w.heap.size,0,none⟩) s.size cap,.bool false] 274)).heap[W1.heap.size]?=some (.cells #[.slice (some ⟨w.heap.size,0,none⟩) s.size cap,.bool false] 274 (0,0)):=by
  show(W1.heap.push _)[W1.heap.size]?=_;simp
 have hO:=Below.heap_alloc W1 (.cells #[.slice (some ⟨w.heap.size,0,none⟩) s.size cap,.bool false] 274) w.heap.size (by have:=Hsz.out;omega);refine⟨W1.heap.size,rfl,by have:=Hsz.out;omega,⟨w.heap.size,0,cap,by rw[Hl];exact hW,⟨_,_,hO.trans q4A.out,qzc.out⟩,by omega,by omega⟩,zR bq _⟩
theorem qeR(b:Nat)(l:List UInt8)(w:World)(h:zw b l false w) :
    Calls prog 280 #[.pointer (some ⟨b,0,none⟩)] w fun e w'=>e=.returned (.bool true)∧w=w':=by
 obtain⟨g,o,cap,hb,_⟩:=h;have h1:w.cell? ⟨b,1,none⟩=some (.bool false):=by simp[World.cell?,hb]
 clear hb;go_enter func280,ntmps280;go_wp2;go_ret;exact⟨rfl,rfl⟩
theorem qmd(b:Nat)(l:List UInt8)(w:World)(h:zw b l true w) :
    Calls prog 280 #[.pointer (some ⟨b,0,none⟩)] w fun e w'=>e=.returned (.bool false)∧w=w':=by
 obtain⟨g,o,cap,hb,_⟩:=h;have h1:w.cell? ⟨b,1,none⟩=some (.bool true):=by simp[World.cell?,hb]
 clear hb;go_enter func280,ntmps280;go_wp2;go_ret;exact⟨rfl,rfl⟩
def tailOff(o len n:Nat):Nat:=if len=n then o else o+n
def qva (b g o:Nat)(l:List UInt8)(n:Nat)(x:Bool)(w:World)(e:Ending)(w':World):Prop :=
 e=.returned (.tuple #[.slice (some ⟨g,o,none⟩) n n,.bool true])∧qeQ b g (tailOff o l.length n) (l.length-n) (l.drop n) x w'∧w.grownBy w' (some b)∧Row w' g o (l.take n)
theorem qeS(g o len cap:Nat)(n:Int)(h0:0≤n)(hn:n.toNat≤cap)(w:World) :
    (Instr.slice 64 (.slice (some ⟨g,o,none⟩) len cap) none (some (.int .u64 n)) (some (.int .u64 n))).run prog w=.ok (.slice (some ⟨g,o,none⟩) n.toNat n.toNat) w:=by
 have h1:n≤(cap:Int):=by omega
 rw[run_slice_any (P:=prog) w 64 (some ⟨g,o,none⟩) len cap underlying64];simp[Instr.sliceBounds,run_sliceBound,h0,h1,go_sem];intro h;omega
theorem qeT(g o len cap:Nat)(n:Int)(h0:0≤n)(hn:n.toNat≤len)(hc:len≤cap)(w:World) :
    (Instr.slice 64 (.slice (some ⟨g,o,none⟩) len cap) (some (.int .u64 n)) (some (.int .i64 (len:Int))) (some (.int .i64 (len:Int)))).run prog w=.ok (.slice (some ⟨g,tailOff o len n.toNat,none⟩) (len-n.toNat) (len-n.toNat)) w:=by
 have h1:n≤(len:Int):=by omega
 have h2:(len:Int)≤(cap:Int):=by omega
 rw[run_slice_any (P:=prog) w 64 (some ⟨g,o,none⟩) len cap underlying64];unfold tailOff;by_cases hl:len=n.toNat
 ·simp[Instr.sliceBounds,run_sliceBound,h0,h1,hc,go_sem];rw[if_pos hl,if_pos hl]
 ·simp[Instr.sliceBounds,run_sliceBound,h0,h1,hc,hl,go_sem]
theorem qme{w:World}{g o:Nat}{l:List UInt8}(h:Row w g o l)(n:Nat):Row w g (tailOff o l.length n) (l.drop n):=by
 unfold tailOff;split
 ·have e:l.drop n=[]:=by simp;omega
  rw[e];exact h.nil0 o
 ·exact h.drop n
theorem uD (b g o cap:Nat)(l:List UInt8)(x:Bool)(n:Int)(w:World)(hR:qeQ b g o cap l x w)(h0:0≤n)(hn:n.toNat≤l.length) :
    Calls prog 281 #[.pointer (some ⟨b,0,none⟩),.int .u64 n] w (qva b g o l n.toNat x w):=by
 obtain⟨hb,hr,hc,hl⟩:=hR;have h1:w.cell? ⟨b,0,none⟩=some (.slice (some ⟨g,o,none⟩) l.length cap):=by simp[World.cell?,hb]
 have h2:w.frozen? ⟨b,0,none⟩=false:=by simp[World.frozen?,hb]
 have hs1:=qeS g o l.length cap n h0 (by omega) w;have hs2:=qeT g o l.length cap n h0 hn hc w;have ht:¬ ((l.length:Int)<n):=by omega
 have hw:=heap_setCell_same w b 0 _ 274 (.slice (some ⟨g,tailOff o l.length n.toNat,none⟩) (l.length-n.toNat) (l.length-n.toNat)) hb;have hgr:w.grownBy (w.setCell ⟨b,0,none⟩ (.slice (some ⟨g,tailOff o l.length n.toNat,none⟩) (l.length-n.toNat) (l.length-n.toNat))) (some b) :=
  ⟨rfl,rfl,rfl,by simp[World.setCell],fun k _ hk=>Below.heap_setCell _ _ _ _ (fun e=>hk (by simp[e]))⟩
 have hgb:g≠b:=by
  intro e;subst e;obtain⟨cs,fr,hg',_⟩:=hr;rw[hb]at hg';simp at hg'
 have hgk:=Below.heap_setCell w ⟨b,0,none⟩ (.slice (some ⟨g,tailOff o l.length n.toNat,none⟩) (l.length-n.toNat) (l.length-n.toNat)) g hgb;have hr1:=(qme hr n.toNat).keep hgk;have hr2:=(hr.take n.toNat).keep hgk;have qmf:qeQ b g (tailOff o l.length n.toNat) (l.length-n.toNat) (l.drop n.toNat) x (w.setCell ⟨b,0,none⟩ (.slice (some ⟨g,tailOff o l.length n.toNat,none⟩) (l.length-n.toNat) (l.length-n.toNat))):=by
  refine⟨?_,hr1,by simp,by simp;omega⟩;rw[hw];simp
 have Hf:=QH qmf;have Hg:=QH hgr;have Hr2:=QH hr2;clear qmf hgr hr1 hr2 hgk hw hb;go_enter func281,ntmps281;go_wp2;go_ret2;exact⟨rfl,Hf.out,Hg.out,Hr2.out⟩
def qmg (w:World)(e:Ending)(w':World):Prop:=e=.returned (.tuple #[.slice none 0 0,.bool false])∧w=w'
theorem qaI(b g o cap:Nat)(l:List UInt8)(x:Bool)(n:Int)(w:World)(hR:qeQ b g o cap l x w)(hn:(l.length:Int)<n) :
    Calls prog 281 #[.pointer (some ⟨b,0,none⟩),.int .u64 n] w (qmg w):=by
 obtain⟨hb,_,_,hl⟩:=hR;have h1:w.cell? ⟨b,0,none⟩=some (.slice (some ⟨g,o,none⟩) l.length cap):=by simp[World.cell?,hb]
 clear hb;go_enter func281,ntmps281;go_wp2;go_ret2;exact⟨rfl,rfl⟩
def sX (b:Nat)(l:List UInt8)(x:Bool)(w:World)(e:Ending)(w':World):Prop :=
 w.grownBy w' (some b) ∧
  ((∃n r,rdNum l=some (n,r)∧e=.returned (.tuple #[.int .u64 (n:Int),.bool true])∧zw b r x w') ∨
   (rdNum l=none∧e=.returned (.tuple #[.int .u64 0,.bool false])∧∃m,zw b m x w'))
theorem qiB(b:Nat)(x:Bool)(w:World)(h:zw b [] x w) :
    Calls prog 254 #[.func (.func 281) #[.pointer (some ⟨b,0,none⟩)] #[]] w (sX b [] x w):=by
 obtain⟨g,o,cap,hR⟩:=h;have hR':zw b [] x w:=⟨g,o,cap,hR⟩;go_enter func254,ntmps254;go_wp2_with (go_at_call 281;refine(qaI b g o cap [] x 1 _ hR (by simp)).mono ?_;rintro e w' ⟨rfl,rfl⟩);go_ret2;exact⟨ki _ _,.inr ⟨rfl,rfl,[],hR'⟩⟩
theorem Row.cell0{w:World}{g o:Nat}{k:UInt8}{r:List UInt8}(h:Row w g o (k::r)):w.cell? ⟨g,o,none⟩=some (.int .u8 (k.toNat:Int)):=by
 have:=h.cell 0 (by simp);simpa using this
theorem qqI(b:Nat)(k:UInt8)(r:List UInt8)(x:Bool)(w:World)(h:zw b (k::r) x w)(hk:8<k.toNat) :
    Calls prog 254 #[.func (.func 281) #[.pointer (some ⟨b,0,none⟩)] #[]] w (sX b (k::r) x w):=by
 obtain⟨g,o,cap,hR⟩:=h;have yr:(8:Int)<(k.toNat:Int):=by omega
 have hnone:rdNum (k::r)=none:=by simp[rdNum,hk]
 have Hn:=QH hnone;clear hnone;go_enter func254,ntmps254;go_wp2_with (go_at_call 281;refine(uD b g o cap (k::r) x 1 _ hR (by decide) (by simp)).mono ?_);rintro e w1 ⟨rfl,h1,h2,h3⟩;have hc:w1.cell? ⟨g,o,none⟩=some (.int .u8 (k.toNat:Int)):=Row.cell0 (r:=[]) h3;have H1:=QH h1;have H2:=QH h2;clear h1 h2 h3;go_wp2;go_ret2;exact⟨H2.out,.inr ⟨Hn.out,rfl,r,⟨_,_,_,H1.out⟩⟩⟩
theorem qiC(b:Nat)(k:UInt8)(r:List UInt8)(x:Bool)(w:World)(h:zw b (k::r) x w)(hk:k.toNat≤8)(hr:r.length<k.toNat) :
    Calls prog 254 #[.func (.func 281) #[.pointer (some ⟨b,0,none⟩)] #[]] w (sX b (k::r) x w):=by
 obtain⟨g,o,cap,hR⟩:=h;have yr:¬ (8:Int)<(k.toNat:Int):=by omega
 have hnone:rdNum (k::r)=none:=by simp[rdNum,Nat.not_lt.2 hk,hr]
 have Hn:=QH hnone;clear hnone;go_enter func254,ntmps254;go_wp2_with (go_at_call 281;refine(uD b g o cap (k::r) x 1 _ hR (by decide) (by simp)).mono ?_);rintro e w1 ⟨rfl,h1,h2,h3⟩;have hc:w1.cell? ⟨g,o,none⟩=some (.int .u8 (k.toNat:Int)):=Row.cell0 (r:=[]) h3;have H1:=QH h1;have H2:=QH h2;clear h1 h2 h3;go_wp2_with (go_at_call 281;refine(qaI b g _ _ r x _ _ H1.out (by omega)).mono ?_;rintro e w' ⟨rfl,rfl⟩);go_ret2;exact⟨H2.out,.inr ⟨Hn.out,rfl,r,⟨_,_,_,H1.out⟩⟩⟩
theorem qmh(b:Nat)(k:UInt8)(r:List UInt8)(x:Bool)(w:World)(h:zw b (k::r) x w)(hk:k.toNat≤8)(hr:k.toNat≤r.length)(h0:(r.take k.toNat).head? = some 0) :
    Calls prog 254 #[.func (.func 281) #[.pointer (some ⟨b,0,none⟩)] #[]] w (sX b (k::r) x w):=by
 obtain⟨g,o,cap,hR⟩:=h;have yr:¬ (8:Int)<(k.toNat:Int):=by omega
 have hnone:rdNum (k::r)=none:=by simp[rdNum,Nat.not_lt.2 hk,Nat.not_lt.2 hr];exact h0
 have Hn:=QH hnone;have hkp:(0:Int)<(k.toNat:Int):=by
  have:k.toNat≠0:=by
   intro e;rw[e]at h0;simp at h0
  omega
 have H0:=QH h0;clear hnone h0;go_enter func254,ntmps254;go_wp2_with (go_at_call 281;refine(uD b g o cap (k::r) x 1 _ hR (by decide) (by simp)).mono ?_);rintro e w1 ⟨rfl,h1,h2,h3⟩;have hc:w1.cell? ⟨g,o,none⟩=some (.int .u8 (k.toNat:Int)):=Row.cell0 (r:=[]) h3;obtain⟨o1,c1,h1⟩:∃o1 c1,qeQ b g o1 c1 r x w1:=⟨_,_,h1⟩;have H1:=QH h1;have H2:=QH h2;clear h1 h2 h3;go_wp2_with (go_at_call 281;refine(uD b g o1 c1 r x (k.toNat:Int) _ H1.out (by omega) (by omega)).mono ?_);rintro e w2 ⟨rfl,h1,h2,h3⟩;rw[Int.toNat_natCast]at h1 h3;have hc0:w2.cell? ⟨g,o1,none⟩=some (.int .u8 0):=by
  have e0:=H0.out;cases hd:r.take k.toNat with
  | nil=>rw[hd]at e0;simp at e0
  | cons y q =>
   rw[hd]at e0 h3;simp at e0;subst e0;exact Row.cell0 h3
 have H3:=QH h1;have H4:=QH h2;clear h1 h2 h3 hc;go_wp2;go_ret2;exact⟨x9 H2.out H4.out,.inr ⟨Hn.out,rfl,_,⟨_,_,_,H3.out⟩⟩⟩
theorem qqJ(v z:Nat)(hv:v<72057594037927936)(hz:z<256):bits BinOp.or IntKind.u64 ((v:Int)*256) (z:Int)=((v*256+z:Nat):Int):=by
 have e:(v:Int)*256=((v*256:Nat):Int):=by omega
 rw[e,u64_or_nat _ _ (by omega) (by omega)];have:=Nat.shiftLeft_add_eq_or_of_lt (i:=8) (b:=z) (by omega) v;rw[Nat.shiftLeft_eq,show(2:Nat) ^ 8=256 from rfl]at this;rw[← this]
def qmi (d:List UInt8)(n i:Value):Prop:=∃j:Nat,j≤d.length∧i=.int .i64 (j:Int)∧n=.int .u64 (val (d.take j):Int)
theorem qmj(b:Nat)(k:UInt8)(r:List UInt8)(x:Bool)(w:World)(h:zw b (k::r) x w)(hk:k.toNat≤8)(hr:k.toNat≤r.length)(h0:¬ (r.take k.toNat).head? = some 0) :
    Calls prog 254 #[.func (.func 281) #[.pointer (some ⟨b,0,none⟩)] #[]] w (sX b (k::r) x w):=by
 obtain⟨g,o,cap,hR⟩:=h;have yr:¬ (8:Int)<(k.toNat:Int):=by omega
 have hsome:rdNum (k::r)=some (val (r.take k.toNat),r.drop k.toNat):=by simp[rdNum,Nat.not_lt.2 hk,Nat.not_lt.2 hr,h0]
 have Hn:=QH hsome;have H0:=QH h0;clear hsome h0;go_enter func254,ntmps254;go_wp2_with (go_at_call 281;refine(uD b g o cap (k::r) x 1 _ hR (by decide) (by simp)).mono ?_);rintro e w1 ⟨rfl,h1,h2,h3⟩;have hc:w1.cell? ⟨g,o,none⟩=some (.int .u8 (k.toNat:Int)):=Row.cell0 (r:=[]) h3;obtain⟨o1,c1,h1⟩:∃o1 c1,qeQ b g o1 c1 r x w1:=⟨_,_,h1⟩;have H1:=QH h1;have H2:=QH h2;clear h1 h2 h3;go_wp2_with (go_at_call 281;refine(uD b g o1 c1 r x (k.toNat:Int) _ H1.out (by omega) (by omega)).mono ?_);rintro e w2 ⟨rfl,h1,h2,h3⟩;rw[Int.toNat_natCast]at h1 h3;have H3:=QH h1;have H4:=QH h2;have hlen:(r.take k.toNat).length=k.toNat:=by simp;omega
 obtain⟨d,hd⟩:∃d,d=r.take k.toNat:=⟨_,rfl⟩;have hE:Hid (rdNum (k::r)=some (val d,r.drop k.toNat)):=by rw[hd];exact Hn
 have hZ:Hid (¬ d.head? = some 0):=by rw[hd];exact H0
 rw[← hd]at hlen h3;clear hd Hn H0 h1 h2 hc hR;have hkb:k.toNat≤8:=hk;cases d with
 | nil =>
  have hk0:¬ (0:Int)<(k.toNat:Int):=by simp at hlen;omega
  have Hl:=QH hlen;have H5:=QH h3;clear hlen h3 hZ;go_wp2;go_loop [7,47] (fun n i=>qmi [] n i) (fun _ i=>k.toNat-(intOf i).toNat);case atStart=>exact⟨0,Nat.zero_le _,rfl,rfl⟩
  case round =>
   obtain⟨j,hj,rfl,rfl⟩:=hrel;have hlt:¬ j<k.toNat:=by omega
   go_wp2;go_ret2;exact⟨x9 H2.out H4.out,.inl ⟨val [],_,hE.out,by simp,_,_,_,H3.out⟩⟩
 | cons y q =>
  have hk0:(0:Int)<(k.toNat:Int):=by simp at hlen;omega
  have hc:=Row.cell0 h3;have hy:((y.toNat:Int) == 0)=false:=by
   have hz:=hZ.out;simp at hz;have:y.toNat≠0:=fun e=>hz (by apply UInt8.toNat_inj.1;simpa using e);simp;omega
  have Hl:=QH hlen;have H5:=QH h3;clear hlen h3 hZ;go_wp2;go_loop [7,47] (fun n i=>qmi (y::q) n i) (fun _ i=>k.toNat-(intOf i).toNat);case atStart=>exact⟨0,Nat.zero_le _,rfl,rfl⟩
  case round =>
   obtain⟨j,hj,rfl,rfl⟩:=hrel;by_cases hlt:j<k.toNat
   ·have hl:=Hl.out;have hc:=H5.out.cell j (by omega);have hb:val ((y::q).take j)<72057594037927936:=by
     have a:=qeL ((y::q).take j);have b:256 ^ ((y::q).take j).length≤256 ^ 7:=Nat.pow_le_pow_right (by omega) (by rw[List.length_take];omega);have e:(256:Nat) ^ 7=72057594037927936:=by decide
     omega
    have hs:=qcp (y::q) j (by omega);have Hs:=QH hs;generalize val ((y::q).take j)=v at *;generalize (y::q)[j]=z at *;have hzb:z.toNat<256:=z.toNat_lt;clear hs;go_wp2;rw[qqJ v z.toNat hb hzb];exact⟨⟨j+1,by omega,by go_num,by rw[Hs.out]⟩,by simp[intOf];omega⟩
   ·have hl:=Hl.out;have hjl:j=(y::q).length:=by omega
    have ht:val ((y::q).take j)=val (y::q):=by rw[hjl,List.take_length]
    have Ht:=QH ht;clear ht hjl hl;go_wp2;go_ret2;exact⟨x9 H2.out H4.out,.inl ⟨val (y::q),_,hE.out,by rw[← Ht.out];rfl,_,_,_,H3.out⟩⟩
theorem ew (b:Nat)(l:List UInt8)(x:Bool)(w:World)(h:zw b l x w) :
    Calls prog 254 #[.func (.func 281) #[.pointer (some ⟨b,0,none⟩)] #[]] w (sX b l x w):=by
 cases l with
 | nil=>exact qiB b x w h
 | cons k r =>
  by_cases hk:k.toNat≤8
  ·by_cases hr:k.toNat≤r.length
   ·by_cases h0:(r.take k.toNat).head? = some 0
    ·exact qmh b k r x w h hk hr h0
    ·exact qmj b k r x w h hk hr h0
   ·exact qiC b k r x w h hk (by omega)
  ·exact qqI b k r x w h (by omega)
theorem zw.flag{b:Nat}{l:List UInt8}{x:Bool}{w:World}(h:zw b l x w)(y:Bool):zw b l y (w.setCell ⟨b,1,none⟩ (.bool y)):=by
 obtain⟨g,o,cap,hb,hr,h1,h2⟩:=h;have hgb:g≠b:=by
  intro e;subst e;obtain⟨cs,fr,hg',_⟩:=hr;rw[hb]at hg';simp at hg'
 have hw:=heap_setCell_same w b 1 _ 274 (.bool y) hb;exact⟨g,o,cap,by rw[hw];simp,hr.keep (Below.heap_setCell w _ _ g hgb),h1,h2⟩
theorem zw.aN(b:Nat)(w:World)(v:Value):w.grownBy (w.setCell ⟨b,1,none⟩ v) (some b) :=
 ⟨rfl,rfl,rfl,by simp[World.setCell],fun k _ hk=>Below.heap_setCell _ _ _ _ (fun e=>hk (by simp[e]))⟩
theorem zw.cell1{b:Nat}{l:List UInt8}{x:Bool}{w:World}(h:zw b l x w):w.cell? ⟨b,1,none⟩=some (.bool x)∧w.frozen? ⟨b,1,none⟩=false:=by
 obtain⟨g,o,cap,hb,_⟩:=h;exact⟨by simp[World.cell?,hb],by simp[World.frozen?,hb]⟩
def mL (b:Nat)(l:List UInt8)(w:World)(e:Ending)(w':World):Prop :=
 w.grownBy w' (some b) ∧
  ((∃n r,rdNum l=some (n,r)∧e=.returned (.int .u64 (n:Int))∧zw b r false w') ∨
   (rdNum l=none∧e=.returned (.int .u64 0)∧∃m,zw b m true w'))
theorem qcs(b:Nat)(l:List UInt8)(w:World)(h:zw b l false w) :
    Calls prog 253 #[.pointer (some ⟨b,0,none⟩),.func (.func 254) #[] #[]] w (mL b l w):=by
 go_enter func253,ntmps253;go_wp2_with (go_at_call 280;refine(qeR b l _ h).mono ?_;rintro e w' ⟨rfl,rfl⟩);go_wp2_with (go_at_call 254;refine(ew b l false _ h).mono ?_);rintro e w1 ⟨hg,⟨n,r,hn,rfl,hr⟩|⟨hn,rfl,m,hm⟩⟩
 ·have Hn:=QH hn;have Hg:=QH hg;obtain⟨hc,hf⟩:=hr.cell1;have Hr:=QH (hr.flag false);clear hn hg hr;go_wp2;go_ret;exact⟨x9 Hg.out (zw.aN _ _ _),.inl ⟨n,r,Hn.out,rfl,Hr.out⟩⟩
 ·have Hn:=QH hn;have Hg:=QH hg;obtain⟨hc,hf⟩:=hm.cell1;have Hr:=QH (hm.flag true);clear hn hg hm;go_wp2;go_ret;exact⟨x9 Hg.out (zw.aN _ _ _),.inr ⟨Hn.out,rfl,m,Hr.out⟩⟩
theorem qct(b:Nat)(l:List UInt8)(w:World)(h:zw b l true w) :
    Calls prog 253 #[.pointer (some ⟨b,0,none⟩),.func (.func 254) #[] #[]] w fun e w'=>e=.returned (.int .u64 0)∧w=w':=by
 go_enter func253,ntmps253;go_wp2_with (go_at_call 280;refine(qmd b l _ h).mono ?_;rintro e w' ⟨rfl,rfl⟩);go_ret;exact⟨rfl,rfl⟩
theorem w6 (b:Nat)(l:List UInt8)(w:World)(h:zw b l false w):Calls prog 191 #[.pointer (some ⟨b,0,none⟩)] w (mL b l w):=by
 go_enter func191,ntmps191;go_wp2_with (go_at_call 253;refine(qcs b l _ h).mono ?_);rintro e w1 ⟨hg,⟨n,r,hn,rfl,hr⟩|⟨hn,rfl,hm⟩⟩
 ·have H:Hid (mL b l w (.returned (.int .u64 (n:Int))) w1):=⟨hg,.inl ⟨n,r,hn,rfl,hr⟩⟩;clear hg hn hr;go_wp2;go_ret;exact H.out
 ·have H:Hid (mL b l w (.returned (.int .u64 0)) w1):=⟨hg,.inr ⟨hn,rfl,hm⟩⟩;clear hg hn hm;go_wp2;go_ret;exact H.out
theorem nB (b:Nat)(l:List UInt8)(w:World)(h:zw b l true w):Calls prog 191 #[.pointer (some ⟨b,0,none⟩)] w fun e w'=>e=.returned (.int .u64 0)∧w=w':=by
 go_enter func191,ntmps191;go_wp2_with (go_at_call 253;refine(qct b l _ h).mono ?_;rintro e w' ⟨rfl,rfl⟩);go_ret;exact⟨rfl,rfl⟩
end Go.Proofs.YtdpbdkacngaemaaGreatDoor.wi
namespace Go.Proofs.YtdpbdkacngaemaaGreatDoor.ib
open _root_.Go.Proofs.Tryz Go Go.RowKit Go.ChangeShapes Go.WideShapes Go.Deep
def qG (x:Int):Prop:=-9223372036854775808≤x∧x≤9223372036854775807
def qL (w:World)(a:Option Addr)(zs:List Int):Prop :=
 ∀i (h:i<zs.length),∃b o,a=some ⟨b,o,none⟩∧b<w.heap.size∧w.cell? ⟨b,o+i,none⟩=some (.int .i64 zs[i])∧qG zs[i]
theorem qL.below{w w':World}{a:Option Addr}{zs:List Int}(h:qL w a zs)(hb:Below w.heap.size w w'):qL w' a zs:=by
 intro i hi;obtain⟨b,o,h1,h2,h3,h4⟩:=h i hi;exact⟨b,o,h1,Nat.lt_of_lt_of_le h2 hb.size,by rw[hb.cell (p:=⟨b,o+i,none⟩) h2];exact h3,h4⟩
theorem qL.nil(w:World)(a:Option Addr):qL w a []:=fun i h=>absurd h (by simp)
theorem qL.mem{w:World}{a:Option Addr}{zs:List Int}(h:qL w a zs):∀z∈zs,qG z:=by
 intro z hz;obtain⟨i,hi,rfl⟩:=List.getElem_of_mem hz;obtain⟨_,_,_,_,_,h4⟩:=h i hi;exact h4
theorem qL.take{w:World}{a:Option Addr}{zs:List Int}(h:qL w a zs)(n:Nat):qL w a (zs.take n):=fun i hi=>by
 have:=h i (by simp at hi;omega);simpa using this
def zj (w:World)(B:Nat)(v:Value)(zs:List Int):Prop:=w.ownsRow B 3 1 v zs.length (zs.map (Value.int .i64))
theorem wP:(prog.info? 3).map (fun i=>(i.zero,i.size,i.bytes))=some (some (.int .i64 0),1,8):=by kernel_rfl
theorem zj.view{w:World}{B:Nat}{v:Value}{zs:List Int}(h:zj w B v zs)(hz:∀z∈zs,qG z):∃a c,v=.slice a zs.length c∧qL w a zs∧∀b o,a=some ⟨b,o,none⟩→B≤b∧b<w.heap.size:=by
 rcases h.2 with⟨rfl,h0⟩|⟨g,cap,cur,rfl,hg,hh,hcc,hm,hcs,xg⟩
 ·obtain rfl:zs=[]:=List.length_eq_zero_iff.1 h0;exact⟨none,0,rfl,(fun i h=>by simp at h),fun b o h=>by cases h⟩
 ·refine⟨some ⟨g,0,none⟩,cap,rfl,fun i hi=>⟨g,0,rfl,(Array.getElem?_eq_some_iff.1 hh).1,?_,hz _ (List.getElem_mem hi)⟩,fun b o h=>?_⟩
  ·rw[Nat.zero_add,cell_of_row w g i cur 3 (0,0) hh];have h3:(cur.toList.take (zs.length*1))[i]?=some (.int .i64 zs[i]):=by rw[xg];simp[hi]
   rw[List.getElem?_take]at h3;split at h3
   ·simpa using h3
   ·cases h3
  ·simp only[Option.some.injEq,Addr.mk.injEq,and_true]at h;obtain⟨rfl,_⟩:=h;exact⟨hg,(Array.getElem?_eq_some_iff.1 hh).1⟩
theorem xr {α:Type}{p:Nat→α→Prop}:∀(n:Nat),(∀i,i<n→∃x,p i x)→∃l:List α,l.length=n∧∀i (h:i<l.length),p i l[i]
 | 0,_=>⟨[],rfl,fun i h=>absurd h (by simp)⟩
 | n+1,h=>by
  obtain⟨l,hl,hp⟩:=xr n (fun i hi=>h i (by omega));obtain⟨x,hx⟩:=h n (by omega);refine⟨l++[x],by simp[hl],fun i hi=>?_⟩;by_cases hin:i<l.length
  ·rw[List.getElem_append_left hin];exact hp i hin
  ·have:i=l.length:=by simp at hi;omega
   subst this;rw[List.getElem_append_right (Nat.le_refl _)];simpa[hl]using hx
section
variable {H:Type} {enc:TypeId × Value→H} {w:World} {held:Bool} {a:Option Addr} {l c:Nat} {d:DataW H} {pl:List MemPlace}
end
end Go.Proofs.YtdpbdkacngaemaaGreatDoor.ib
namespace Go.Proofs.YtdpbdkacngaemaaGreatDoor.ib
open _root_.Go.Proofs.Tryz Go Go.RowKit
def qd (w:World)(g:Nat)(t:TypeId)(cs:Array Value):Prop:=w.heap[g]?=some (.cells cs t (0,0))
section
variable {w w':World} {g:Nat} {t:TypeId} {cs:Array Value}
theorem qd.lt(h:qd w g t cs):g<w.heap.size:=by
 unfold qd at h;exact(Array.getElem?_eq_some_iff.1 h).1
theorem qd.cell(h:qd w g t cs)(i:Nat):w.cell? ⟨g,i,none⟩=cs[i]? :=cell_of_row w g i cs t (0,0) h
theorem qd.frozen(h:qd w g t cs)(i:Nat):w.frozen? ⟨g,i,none⟩=false:=by
 unfold qd at h;simp[World.frozen?,h]
theorem qd.new(w:World)(t:TypeId)(cs:Array Value):qd (w.alloc (.cells cs t)) w.heap.size t cs:=heap_alloc_new w _
theorem qd.of_block(h:qd w g t cs)(hb:w'.heap[g]?=w.heap[g]?):qd w' g t cs:=hb.trans h
theorem qd.below(h:qd w g t cs)(hb:Below w.heap.size w w'):qd w' g t cs:=h.of_block (hb.block _ h.lt)
theorem qd.qo(h:qd w g t cs)(i:Nat)(u:Value):qd (w.setCell ⟨g,i,none⟩ u) g t (cs.setIfInBounds i u):=heap_setCell_same w g i cs t u h
end
structure qB(S:Nat→Prop)(w w':World):Prop where
 os:w'.os=w.os
 tape:w'.tape=w.tape
 output:w'.output=w.output
 size:w.heap.size≤w'.heap.size
 block:∀k,k<w.heap.size→¬ S k→w'.heap[k]?=w.heap[k]?
section
variable {S S':Nat→Prop} {a b c w w':World}
theorem qB.refl(S:Nat→Prop)(w:World):qB S w w:=⟨rfl,rfl,rfl,Nat.le_refl _,fun _ _ _=>rfl⟩
theorem qB.trans(h:qB S a b)(k:qB S' b c)(hs:∀i,S' i→S i∨a.heap.size≤i):qB S a c :=
 ⟨k.os.trans h.os,k.tape.trans h.tape,k.output.trans h.output,Nat.le_trans h.size k.size,fun i hi hn=>by
  refine(k.block i (Nat.lt_of_lt_of_le hi h.size) (fun e=>?_)).trans (h.block i hi hn);rcases hs i e with h1|h1
  ·exact hn h1
  ·omega⟩
theorem qB.mono(h:qB S w w')(hs:∀i,S i→S' i):qB S' w w':=⟨h.os,h.tape,h.output,h.size,fun k hk hn=>h.block k hk (fun e=>hn (hs k e))⟩
theorem qB.of_below(h:Below w.heap.size w w'):qB S w w':=⟨h.os,h.tape,h.output,h.size,fun k hk _=>h.block k hk⟩
theorem qB.drew(h:qB S a w):qB S a w.drew:=⟨h.os,h.tape,h.output,h.size,h.block⟩
theorem qB.drewN(h:qB S a w)(n:Nat):qB S a (w.drewN n):=⟨h.os,h.tape,h.output,h.size,h.block⟩
theorem qB.alloc(h:qB S a w)(o:Obj):qB S a (w.alloc o) :=
 h.trans (S':=fun _=>False) ⟨rfl,rfl,rfl,by simp,fun k hk _=>Below.heap_alloc _ _ _ hk⟩ (fun _ e=>e.elim)
theorem qB.setCell(h:qB S a w)(p:Addr)(u:Value)(hp:S p.block∨a.heap.size≤p.block):qB S a (w.setCell p u) :=
 h.trans (S':=fun k=>k=p.block) ⟨rfl,rfl,rfl,by simp[World.setCell],fun k _ hn=>Below.heap_setCell _ _ _ _ hn⟩ (fun i e=>by rw[e];exact hp)
theorem qB.below{B:Nat}(h:qB S a w)(hs:∀i,S i→B≤i)(hB:B≤a.heap.size):Below B a w :=
 ⟨h.os,h.tape,h.output,h.size,fun k hk=>h.block k (by omega) (fun e=>by have:=hs k e;omega)⟩
end
end Go.Proofs.YtdpbdkacngaemaaGreatDoor.ib
namespace Go.Proofs.YtdpbdkacngaemaaGreatDoor.ib
open _root_.Go.Proofs.Tryz Go Go.RowKit
def qi (cs:List Int):Array Value:=(cs.map (Value.int .i64)).toArray
theorem ur (cs:List Int)(i:Nat)(h:i<cs.length):(qi cs)[i]?=some (.int .i64 cs[i]):=by simp[qi,h]
theorem kJ (cs:List Int):(qi cs).size=cs.length:=by simp[qi]
theorem nC (cs:List Int)(i:Nat)(v:Int):(qi cs).setIfInBounds i (.int .i64 v)=qi (cs.set i v):=by
 unfold qi;rw[List.setIfInBounds_toArray,List.map_set]
theorem qeV(n:Nat):madeCells #[.int .i64 0] n=qi (List.replicate n 0):=by
 apply Array.ext
 ·simp[size_madeCells,qi]
 ·intro j h1 h2;have e:(qi (List.replicate n 0))[j]?=some (.int .i64 0):=by
   have hj:j<n:=by simpa[qi]using h2
   rw[ur _ _ (by simpa using hj),List.getElem_replicate]
  rw[Array.getElem?_eq_getElem h2]at e;rw[Option.some.inj e];simp[madeCells,Nat.mod_one]
theorem qd.nums{w:World}{g:Nat}{cs:List Int}(h:qd w g 3 (qi cs))(hz:∀z∈cs,qG z):qL w (some ⟨g,0,none⟩) cs:=fun i hi =>
 ⟨g,0,rfl,h.lt,by rw[Nat.zero_add,h.cell i];exact ur cs i hi,hz _ (List.getElem_mem hi)⟩
theorem dF (W:World)(zs:List Int)(hz:∀z∈zs,qG z):qL (W.alloc (.cells (qi zs) 3)) (some ⟨W.heap.size,0,none⟩) zs:=qd.nums (qd.new W 3 (qi zs)) hz
theorem sY (n:Int)(h0:0≤n)(h:n*8≤140737488355328)(W:World):(Instr.makeSlice 80 (.int .i64 n) (.int .i64 n)).run prog W=.ok (.slice (some ⟨W.heap.size,0,none⟩) n.toNat n.toNat) (W.alloc (.cells (qi (List.replicate n.toNat 0)) 3)):=by
 obtain⟨i0,hi,hz0,hz1,hz2⟩:=info_parts wP;have hmk:=run_make (P:=prog) W 80 3 i0 (.int .i64 0) underlying80 hi hz0 .i64 .i64 n n h0 (Int.le_refl _) (by rw[hz2];omega) (by omega);rw[hz1]at hmk;rw[← qeV];simpa[Value.cells]using hmk
def uE (r:Bool)(w:World)(e:Ending)(w':World):Prop:=e=.returned (.bool r)∧Below w.heap.size w w'
def bT (r:Int)(w:World)(e:Ending)(w':World):Prop:=e=.returned (.int .i64 r)∧Below w.heap.size w w'
structure New(w w':World)(A:Option Addr)(r:List Int)(cc:Nat):Prop where
 ints:qL w' A r
 free:∀i,i<r.length→∀b o,A=some ⟨b,o,none⟩→w'.frozen? ⟨b,o+i,none⟩=false
 new:∀b o,A=some ⟨b,o,none⟩→w.heap.size≤b∧b<w'.heap.size
 cap:r.length≤cc
 nil:A=none→r.length=0∧cc=0
structure jv(w:World)(A:Option Addr)(l:List Int)(c:Nat):Prop where
 ints:qL w A l
 cap:l.length≤c
 nil:A=none→l.length=0∧c=0
theorem jv.below{w w':World}{A:Option Addr}{l:List Int}{c:Nat}(h:jv w A l c)(hb:Below w.heap.size w w'):jv w' A l c:=⟨h.ints.below hb,h.cap,h.nil⟩
theorem New.sl{w w':World}{A:Option Addr}{r:List Int}{cc:Nat}(h:New w w' A r cc):jv w' A r cc:=⟨h.ints,h.cap,h.nil⟩
theorem jv.none(w:World):jv w none [] 0:=⟨qL.nil _ _,Nat.le_refl _,fun _=>⟨rfl,rfl⟩⟩
theorem qvb(W:World)(zs:List Int)(hz:∀z∈zs,qG z):jv (W.alloc (.cells (qi zs) 3)) (some ⟨W.heap.size,0,Option.none⟩) zs zs.length:=⟨dF W zs hz,Nat.le_refl _,fun h=>by cases h⟩
def qiD (r:List Int × Int)(w:World)(e:Ending)(w':World):Prop:=∃A cc,e=.returned (.tuple #[.slice A r.1.length cc,.int .i64 r.2])∧New w w' A r.1 cc∧Below w.heap.size w w'
theorem New.empty(w w':World):New w w' none [] 0:=⟨qL.nil _ _,fun _ h=>absurd h (by simp),(fun _ _ h=>by cases h),Nat.le_refl _,fun _=>⟨rfl,rfl⟩⟩
theorem nD {c:Int}{w w':World}(h:Below w.heap.size w w'):qiD ([],c) w (.returned (.tuple #[.slice none 0 0,.int .i64 c])) w' :=
 ⟨none,0,rfl,New.empty _ _,h⟩
theorem zj.new{w w':World}{v:Value}{zs:List Int}(h:zj w' w.heap.size v zs)(hz:∀z∈zs,qG z):∃A cc,v=.slice A zs.length cc∧New w w' A zs cc:=by
 rcases h.2 with⟨rfl,h0⟩|⟨g,cap,cur,rfl,hg,hh,hcc,hm,hcs,xg⟩
 ·obtain rfl:zs=[]:=List.length_eq_zero_iff.1 h0;exact⟨none,0,rfl,New.empty _ _⟩
 ·obtain⟨A,cc,hv,hi,hb⟩:=h.view hz;simp only[Value.slice.injEq]at hv;obtain⟨rfl,_,rfl⟩:=hv;refine⟨_,_,rfl,hi,fun i _ b o hA=>?_,hb,by omega,fun h=>by cases h⟩;simp only[Option.some.injEq,Addr.mk.injEq,and_true]at hA;obtain⟨rfl,_⟩:=hA;simp[World.frozen?,hh]
theorem qeW{w w':World}{v:Value}{zs:List Int}{c:Int}{r:List Int × Int}(ho:zj w' w.heap.size v zs)(hz:∀z∈zs,qG z)(hb:Below w.heap.size w w')(hr:r=(zs,c)) :
    qiD r w (.returned (.tuple #[v,.int .i64 c])) w':=by
 subst hr;obtain⟨A,cc,rfl,hn⟩:=ho.new hz;exact⟨A,cc,rfl,hn,hb⟩
end Go.Proofs.YtdpbdkacngaemaaGreatDoor.ib
namespace Go.Proofs.YtdpbdkacngaemaaGreatDoor
open _root_.Go.Proofs.Tryz Go Go.RowKit
theorem xe {P:Program}{id:Nat}{Q:Exit→Act→World→Prop}{a:Act}{w:World}{l:List Oper}(n:Nat)(hm:P.follows .mixedOrders=true)(hB:Region.lexTailB .any l.toArray n=true)
    (h:wpStill P l.toArray w.drew (fun a'=>wpList P l.toArray Q (l.drop n) a' w.drew) (l.take n) a):(Code.region id l.toArray true).wp P Q a w :=
 wp_region_still_tail n hm hB h
theorem yE {P:Program}{ops:Array Oper}{w:World}{Q:Act→Prop}{o:Oper}{rest:List Oper}{a:Act}{v:Value}(hg:o.guard=none)(h:(execOp a.eval o).run P w=.ok (.value v) w)
    (hn:wpStill P ops w Q rest (a.put o.dst v)):wpStill P ops w Q (o::rest) a:=by
 have hw:Region.wanted o (yielded ops a.tmps)=true:=by simp[Region.wanted,hg]
 unfold wpStill;rw[if_pos hw];unfold Oper.still;rw[h];exact⟨rfl,hn⟩
theorem qmk{P:Program}{o:Oper}{a:Act}{w w':World}{v:Value}{K:Act→World→Prop}{Q:Exit→Act→World→Prop}(h:(execOp a.eval o).run P w=.ok (.value v) w')(hn:K (a.put o.dst v) w'):o.wp P a w K Q:=by
 unfold Oper.wp;rw[h];exact hn
theorem qh {P:Program}{ops:Array Oper}{rest:List Oper}{o:Oper}{a:Act}{w w':World}{v:Value}{Q:Exit→Act→World→Prop}(hg:o.guard=none)(h:(execOp a.eval o).run P w=.ok (.value v) w')
    (hn:wpList P ops Q rest (a.put o.dst v) w'):wpList P ops Q (o::rest) a w :=
 wpList_plain hg fun _ hK=>qmk h (hK _ _ hn)
theorem wp_skip{P:Program}{o:Oper}{a:Act}{w w':World}{K:Act→World→Prop}{Q:Exit→Act→World→Prop}(h:(execOp a.eval o).run P w=.ok .skip w')(hn:K (a.put o.dst undef) w'):o.wp P a w K Q:=by
 unfold Oper.wp;rw[h];exact hn
theorem wpList_skip{P:Program}{ops:Array Oper}{rest:List Oper}{o:Oper}{a:Act}{w w':World}{Q:Exit→Act→World→Prop}(hg:o.guard=none)(h:(execOp a.eval o).run P w=.ok .skip w')
    (hn:wpList P ops Q rest (a.put o.dst undef) w'):wpList P ops Q (o::rest) a w :=
 wpList_plain hg fun _ hK=>wp_skip h (hK _ _ hn)
end Go.Proofs.YtdpbdkacngaemaaGreatDoor
namespace Go.Proofs.YtdpbdkacngaemaaGreatDoor.ib
open _root_.Go.Proofs.Tryz Go Go.RowKit
abbrev Bt:=List UInt8
def zz:Bt:=List.replicate 32 0
def rep (c:UInt8)(n:Nat):Bt:=List.replicate n c
def dat (c:UInt8):Bt:=if c.toNat≤250 then rep c 32 else rep c (c.toNat%31)
theorem qJ:zz.length=32:=by simp[zz]
theorem lC (z:Nat):madeCells #[Value.int .u8 0] z=(Lib.byteCells (List.replicate z 0)).toArray:=by
 apply Array.ext';apply List.ext_getElem?;intro j;by_cases hj:j<z <;> simp[madeCells,Lib.byteCells,hj,Nat.mod_one]
theorem qeX(e:Int)(z:Nat)(w:World)(he:e=(z:Int))(hz:z≤1000000) :
    (Instr.makeSlice 64 (.int .i64 e) (.int .i64 e)).run prog w=.ok (.slice (some ⟨w.heap.size,0,none⟩) z z) (w.alloc (.cells (Lib.byteCells (List.replicate z 0)).toArray 5)):=by
 subst he;obtain⟨i0,hi,hz0,hz1,hz2⟩:=info_parts Tryz.ny;have hmk:=run_make (P:=prog) w 64 5 i0 (.int .u8 0) underlying64 hi hz0 .i64 .i64 (z:Int) (z:Int) (by omega) (by omega) (by rw[hz2];omega) (by omega);rw[hz1]at hmk;rw[← lC];simpa[Value.cells]using hmk
theorem qcu{ρ:Operand→Value}{o:Oper}{w:World}(x y:Operand)(z:Nat)(ho:o.op=.makeSlice 64 x y)(hx:ρ x=.int .i64 (z:Int))(hy:ρ y=.int .i64 (z:Int))(hz:z≤1000000) :
    (execOp ρ o).run prog w=.ok (.value (.slice (some ⟨w.heap.size,0,none⟩) z z)) (w.alloc (.cells (Lib.byteCells (List.replicate z 0)).toArray 5)):=by
 have hr:=qeX (z:Int) z w rfl hz;simp[execOp,ho,hx,hy,hr,Result.andThen]
theorem wQ (P:Bt)(b k:Nat)(t:TypeId)(w:World)(hk:P.length=k)(h:w.heap[b]?=some (.cells (Lib.byteCells P).toArray t (0,0))) :
    (convert 64 9 (.slice (some ⟨b,0,none⟩) k k)).run prog w=.ok (.string (str P)) w:=by
 subst hk;refine run_convert_bytes_back (P:=prog) w 64 9 5 ⟨b,0,none⟩ P.length P underlying64 underlying5 underlying9 ?_;intro j hj;rw[addr_add,Nat.zero_add,cell_of_row w b j _ _ _ h];simp[Lib.byteCells,hj]
def okS (v:Bt)(w:World)(e:Ending)(w':World):Prop:=e=.returned (.string (str v))∧Below w.heap.size w w'
def wa (c:UInt8)(k:Nat):Array Value:=(Lib.byteCells (List.replicate k c++List.replicate (32-k) 0)).toArray
theorem qeY(c:UInt8):wa c 0=(Lib.byteCells (List.replicate 32 0)).toArray:=rfl
theorem qeZ(c:UInt8)(k:Nat)(h:k≤32):(wa c k).size=32:=by simp[wa,Lib.byteCells];omega
theorem qiE(c:UInt8)(k:Nat)(h:k<32):(wa c k).setIfInBounds k (.int .u8 (c.toNat:Int))=wa c (k+1):=by
 unfold wa Lib.byteCells;simp only[List.setIfInBounds_toArray,List.map_append,List.map_replicate];rw[List.set_append_right _ _ (by simp)]
 congr 1
 rw[show 32-k=(32-(k+1))+1 by omega,List.replicate_succ,List.replicate_succ'];simp
theorem qfa(c:UInt8)(n:Nat):(rep c n).length=n:=by simp[rep]
theorem qfb(c:UInt8):wa c 32=(Lib.byteCells (rep c 32)).toArray:=by simp[wa,rep]
def kC (x:Int):Prop:=-9223372036854775808≤x∧x≤9223372036854775807
def TxL (w:World)(A:Option Addr)(ts:List Bt):Prop :=
 ∀i (h:i<ts.length),∃b o,A=some ⟨b,o,none⟩∧b<w.heap.size∧w.cell? ⟨b,o+i,none⟩=some (.string (str ts[i]))
theorem TxL.kept{w w':World}{A:Option Addr}{ts:List Bt}(h:TxL w A ts)(hs:w.heap.size≤w'.heap.size)(hk:∀b o,A=some ⟨b,o,none⟩→w'.heap[b]?=w.heap[b]?):TxL w' A ts:=by
 intro i hi;obtain⟨b,o,h1,h2,h3⟩:=h i hi;exact⟨b,o,h1,Nat.lt_of_lt_of_le h2 hs,by rw[World.cell?_of_block (a:=⟨b,o+i,none⟩) (hk b o h1)];exact h3⟩
theorem TxL.below{w w':World}{A:Option Addr}{ts:List Bt}(h:TxL w A ts)(hb:Below w.heap.size w w'):TxL w' A ts:=by
 intro i hi;obtain⟨b,o,h1,h2,h3⟩:=h i hi;exact⟨b,o,h1,Nat.lt_of_lt_of_le h2 hb.size,by rw[hb.cell (p:=⟨b,o+i,none⟩) h2];exact h3⟩
def wb (w w':World)(A:Option Addr):Prop:=∀b o,A=some ⟨b,o,none⟩→w.heap.size≤b∧b<w'.heap.size
theorem wb.none(w w':World):wb w w' none:=fun _ _ h=>by cases h
end Go.Proofs.YtdpbdkacngaemaaGreatDoor.ib
namespace Go.Proofs.YtdpbdkacngaemaaGreatDoor.mt
open _root_.Go.Proofs.Tryz Go Go.RowKit ib wi
def jN (w:World)(A:Option Addr)(xs:List Sp):Prop :=
 ∀i (h:i<xs.length),∃b o B c,A=some ⟨b,o,none⟩∧b<w.heap.size∧w.cell? ⟨b,o+i*4,none⟩=some (.int .u64 (xs[i].g.1:Int))∧w.cell? ⟨b,o+i*4+1,none⟩=some (.int .u64 (xs[i].g.2:Int)) ∧
  w.cell? ⟨b,o+i*4+2,none⟩=some (.slice B xs[i].qu.length c)∧w.cell? ⟨b,o+i*4+3,none⟩=some (.bool xs[i].hid)∧jv w B xs[i].qu c∧xF xs[i].g
theorem jN.below{w w':World}{A:Option Addr}{xs:List Sp}(h:jN w A xs)(hb:Below w.heap.size w w'):jN w' A xs:=by
 intro i hi;obtain⟨b,o,B,c,h1,h2,h3,h4,h5,h6,h7,h8⟩:=h i hi;exact⟨b,o,B,c,h1,Nat.lt_of_lt_of_le h2 hb.size,by rw[hb.cell (p:=⟨b,o+i*4,none⟩) h2];exact h3,by rw[hb.cell (p:=⟨b,o+i*4+1,none⟩) h2];exact h4,by rw[hb.cell (p:=⟨b,o+i*4+2,none⟩) h2];exact h5,by rw[hb.cell (p:=⟨b,o+i*4+3,none⟩) h2];exact h6,h7.below hb,h8⟩
theorem jN.nil(w:World)(A:Option Addr):jN w A []:=fun i h=>absurd h (by simp)
theorem jN.sZ{w:World}{A:Option Addr}{xs:List Sp}(h:jN w A xs):∀s∈xs,xF s.g:=by
 intro s hs;obtain⟨i,hi,rfl⟩:=List.getElem_of_mem hs;obtain⟨_,_,_,_,_,_,_,_,_,_,_,h8⟩:=h i hi;exact h8
def zJ (A0 A1 A2:Option Addr)(c0 c1 c2:Nat)(m:Mt):Array Value:=#[.slice A0 m.live.length c0,.slice A1 m.qc.length c1,.int .u64 (m.tok.base.1:Int),.int .u64 (m.tok.base.2:Int),.int .u64 (m.tok.target.1:Int),.int .u64 (m.tok.target.2:Int),.int .i64 m.tok.next,.int .i64 m.tok.all,.slice A2 m.tok.qu.length c2]
structure MtL(w:World)(A0 A1 A2:Option Addr)(c0 c1 c2:Nat)(m:Mt):Prop where
 live:jv w A0 m.live c0
 qc:jN w A1 m.qc
 room:m.qc.length≤c1∧(A1=none→m.qc.length=0∧c1=0)
 qu:jv w A2 m.tok.qu c2
 base:xF m.tok.base
 target:xF m.tok.target
 next:qG m.tok.next
 all:qG m.tok.all
theorem MtL.below{w w':World}{A0 A1 A2:Option Addr}{c0 c1 c2:Nat}{m:Mt}(h:MtL w A0 A1 A2 c0 c1 c2 m)(hb:Below w.heap.size w w'):MtL w' A0 A1 A2 c0 c1 c2 m :=
 ⟨h.live.below hb,h.qc.below hb,h.room,h.qu.below hb,h.base,h.target,h.next,h.all⟩
theorem MtL.mB{w:World}{A0 A1 A2:Option Addr}{c0 c1 c2:Nat}{m:Mt}(h:MtL w A0 A1 A2 c0 c1 c2 m):mB m:=⟨h.qc.sZ,h.base,h.target⟩
structure mtS(m:Mt):Prop where
 live:m.live.length≤1000
 qc:m.qc.length≤1000
 dG:∀s∈m.qc,s.qu.length≤1000
 qu:m.tok.qu.length≤1000
def rW (w:World)(v:Value)(m:Mt):Prop:=∃A0 A1 A2 c0 c1 c2,v=.agg (zJ A0 A1 A2 c0 c1 c2 m)∧MtL w A0 A1 A2 c0 c1 c2 m
theorem rW.below{w w':World}{v:Value}{m:Mt}(h:rW w v m)(hb:Below w.heap.size w w'):rW w' v m:=by
 obtain⟨A0,A1,A2,c0,c1,c2,h1,h2⟩:=h;exact⟨A0,A1,A2,c0,c1,c2,h1,h2.below hb⟩
theorem rW.mB{w:World}{v:Value}{m:Mt}(h:rW w v m):mB m:=by
 obtain⟨A0,A1,A2,c0,c1,c2,h1,h2⟩:=h;exact h2.mB
def qvc (r:List UInt8 × Int)(w:World)(e:Ending)(w':World):Prop:=e=.returned (.tuple #[.string (str r.1),.int .i64 r.2])∧Below w.heap.size w w'
end Go.Proofs.YtdpbdkacngaemaaGreatDoor.mt
namespace Go.Proofs.YtdpbdkacngaemaaGreatDoor.mt
open _root_.Go.Proofs.Tryz Go Go.RowKit ib
@[go_sem] theorem qze (a b c d:Int) (w:World):(Op.equalIn 10000 38 (.agg #[.int .u64 a,.int .u64 b]) (.agg #[.int .u64 c,.int .u64 d])).run prog w=.ok (a == c&&b == d) w:=by
 have u3:=underlying36;have a3:=isAgg36;have z3:=sizeOf36;rw[show(10000:Nat)=9999+1 from rfl,run_equalIn_agg w 9999 38 _ _ (by kernel_rfl) (by kernel_rfl)];simp only[Program.fieldsOf,underlying38];go_simp;by_cases h1:a=c <;> by_cases h2:b=d <;> simp[h1,h2]
def gv (g:Gd):Value:=.agg #[.int .u64 (g.1:Int),.int .u64 (g.2:Int)]
theorem qmn(x y:Gd):((x.1:Int) == (y.1:Int)&&(x.2:Int) == (y.2:Int))=decide (x=y):=by
 obtain⟨a,b⟩:=x;obtain⟨c,d⟩:=y;rw[Bool.eq_iff_iff];simp;omega
end Go.Proofs.YtdpbdkacngaemaaGreatDoor.mt
namespace Go.Proofs.YtdpbdkacngaemaaGreatDoor.wi
open _root_.Go.Proofs.Tryz Go.RowKit
def bD (c:Nat)(s:ByteArray)(bad:Bool)(w:World):Prop:=w.heap[c]?=some (.cells #[.string s,.bool bad] 208 (0,0))∧s.size≤1000000
theorem bD.cells{c:Nat}{s:ByteArray}{bad:Bool}{w:World}(h:bD c s bad w) :
    w.cell? ⟨c,0,none⟩=some (.string s)∧w.cell? ⟨c,1,none⟩=some (.bool bad)∧w.frozen? ⟨c,0,none⟩=false∧w.frozen? ⟨c,1,none⟩=false:=by
 obtain⟨hb,_⟩:=h;exact⟨by simp[World.cell?,hb],by simp[World.cell?,hb],by simp[World.frozen?,hb],by simp[World.frozen?,hb]⟩
theorem bD.qmo{c:Nat}{s:ByteArray}{bad:Bool}{w:World}(h:bD c s bad w)(t:ByteArray)(ht:t.size≤1000000):bD c t bad (w.setCell ⟨c,0,none⟩ (.string t)):=by
 have:=heap_setCell_same w c 0 _ 208 (.string t) h.1;exact⟨by rw[this];simp,ht⟩
theorem bD.qmp{c:Nat}{s:ByteArray}{bad:Bool}{w:World}(h:bD c s bad w)(x:Bool):bD c s x (w.setCell ⟨c,1,none⟩ (.bool x)):=by
 have:=heap_setCell_same w c 1 _ 208 (.bool x) h.1;exact⟨by rw[this];simp,h.2⟩
theorem aO (c o:Nat)(w:World)(v:Value):w.grownBy (w.setCell ⟨c,o,none⟩ v) (some c) :=
 ⟨rfl,rfl,rfl,by simp[World.setCell],fun k _ hk=>Below.heap_setCell _ _ _ _ (fun e=>hk (by simp[e]))⟩
theorem grown_drewN{w w':World}{r:Option Nat}(h:w.grownBy w' r)(n:Nat):w.grownBy (w'.drewN n) r:=⟨h.os,h.tape,h.output,h.size,h.block⟩
theorem uF {w w':World}{r:Option Nat}{n:Nat}(h:(w.drewN n).grownBy w' r):w.grownBy w' r:=⟨h.os,h.tape,h.output,h.size,h.block⟩
theorem dH (c:Nat)(s:ByteArray)(bad:Bool)(w:World)(h:bD c s bad w) :
    Calls prog 260 #[.pointer (some ⟨c,0,none⟩)] w fun e w'=>e=.returned (.tuple #[])∧bD c ⟨#[]⟩ true w'∧w.grownBy w' (some c):=by
 obtain⟨h1,h2,h3,h4⟩:=h.cells;have H:=QH ((h.qmo ⟨#[]⟩ (by decide)).qmp true);have G:=QH (x9 (aO c 0 w (.string ⟨#[]⟩)) (aO c 1 _ (.bool true)));clear h;go_enter func260,ntmps260;go_wp2
 go_end0
 exact⟨rfl,H.out,G.out⟩
def qfc (c:Nat)(s:ByteArray)(w:World)(e:Ending)(w':World):Prop :=
 w.grownBy w' (some c) ∧
  ((∃n r s',rdNum (bl s)=some (n,r)∧e=.returned (.int .u64 (n:Int))∧bl s'=r∧bD c s' false w') ∨
   (rdNum (bl s)=none∧e=.returned (.int .u64 0)∧bD c ⟨#[]⟩ true w'))
def tj (c:Nat)(w:World)(e:Ending)(w':World):Prop :=
 w.grownBy w' (some c)∧e=.returned (.int .u64 0)∧bD c ⟨#[]⟩ true w'
theorem qvd(s:ByteArray)(i:Nat)(h:i<s.size):(bl s)[i]'(by rw[zn];exact h)=s[i]:=rfl
theorem qqK(s:ByteArray)(h:0<s.size):bl s=s[0]::(bl s).drop 1:=by
 have hl:0<(bl s).length:=by rw[zn];exact h
 have:=List.drop_eq_getElem_cons hl;rw[List.drop_zero]at this;rw[this];rfl
theorem qzf(c:Nat)(s:ByteArray)(w:World)(h:bD c s true w) :
    Calls prog 214 #[.pointer (some ⟨c,0,none⟩)] w (tj c w):=by
 obtain⟨h1,h2,h3,h4⟩:=h.cells;go_enter func214,ntmps214;go_wp2;go_quiet (fail);have hq:bD c s true (w.drewN nq):=h;go_wp2_with (go_at_call 260;refine(dH c s true _ hq).mono ?_);rintro e w2 ⟨rfl,rX,hg2⟩;have Hg:=QH (uF hg2);clear hg2;go_wp2;go_ret;exact⟨Hg.out,rfl,rX⟩
theorem qqL(c:Nat)(s:ByteArray)(w:World)(h:bD c s false w)(hp:s.size=0) :
    Calls prog 214 #[.pointer (some ⟨c,0,none⟩)] w (tj c w):=by
 obtain⟨h1,h2,h3,h4⟩:=h.cells;have e1:=QH (show((s.size:Int) == 0)=true by rw[beq_iff_eq];omega);clear hp;go_enter func214,ntmps214;go_wp2;have f1:=e1.out;go_quiet (fail);have hq:bD c s false (w.drewN nq):=h;go_wp2_with (go_at_call 260;refine(dH c s false _ hq).mono ?_);rintro e w2 ⟨rfl,rX,hg2⟩;have Hg:=QH (uF hg2);clear hg2;go_wp2;go_ret;exact⟨Hg.out,rfl,rX⟩
theorem qzg(c:Nat)(s:ByteArray)(w:World)(h:bD c s false w)(hp:0<s.size)(hk:8<s[0].toNat) :
    Calls prog 214 #[.pointer (some ⟨c,0,none⟩)] w (tj c w):=by
 obtain⟨h1,h2,h3,h4⟩:=h.cells;have hp0:0<s.size:=by omega
 have hpi:(0:Int)<(s.size:Int):=by omega
 have e1:=QH (show((s.size:Int) == 0)=false by rw[beq_eq_false_iff_ne];omega);have e2:=QH (show decide ((8:Int)<(s[0].toNat:Int))=true by rw[decide_eq_true_iff];omega);go_enter func214,ntmps214;go_wp2;have f1:=e1.out;have f2:=e2.out;go_quiet (fail);have hq:bD c s false (w.drewN nq):=h;go_wp2_with (go_at_call 260;refine(dH c s false _ hq).mono ?_);rintro e w2 ⟨rfl,rX,hg2⟩;have Hg:=QH (uF hg2);clear hg2;go_wp2;go_ret;exact⟨Hg.out,rfl,rX⟩
theorem qqM(c:Nat)(s:ByteArray)(w:World)(h:bD c s false w)(hp:0<s.size)(hk:s[0].toNat≤8)(hl:s.size<1+s[0].toNat) :
    Calls prog 214 #[.pointer (some ⟨c,0,none⟩)] w (tj c w):=by
 obtain⟨h1,h2,h3,h4⟩:=h.cells;have hp0:0<s.size:=by omega
 have hpi:(0:Int)<(s.size:Int):=by omega
 have e1:=QH (show((s.size:Int) == 0)=false by rw[beq_eq_false_iff_ne];omega);have e2:=QH (show decide ((8:Int)<(s[0].toNat:Int))=false by rw[decide_eq_false_iff_not];omega);have e3:=QH (show decide ((s.size:Int)<(1:Int)+(s[0].toNat:Int))=true by rw[decide_eq_true_iff];omega);go_enter func214,ntmps214;go_wp2;have f1:=e1.out;have f2:=e2.out;have f3:=e3.out;go_quiet (fail);have hq:bD c s false (w.drewN nq):=h;go_wp2_with (go_at_call 260;refine(dH c s false _ hq).mono ?_);rintro e w2 ⟨rfl,rX,hg2⟩;have Hg:=QH (uF hg2);clear hg2;go_wp2;go_ret;exact⟨Hg.out,rfl,rX⟩
theorem qve(c:Nat)(s:ByteArray)(w:World)(h:bD c s false w)(hp:1<s.size)(hk:s[0].toNat≤8)(hl:1+s[0].toNat≤s.size)(hk0:0<s[0].toNat)(h0:s[1].toNat=0) :
    Calls prog 214 #[.pointer (some ⟨c,0,none⟩)] w (tj c w):=by
 obtain⟨h1,h2,h3,h4⟩:=h.cells;have hp0:0<s.size:=by omega
 have hpi:(0:Int)<(s.size:Int):=by omega
 have e1:=QH (show((s.size:Int) == 0)=false by rw[beq_eq_false_iff_ne];omega);have q4E:(1:Int)<(s.size:Int):=by omega
 have e2:=QH (show decide ((8:Int)<(s[0].toNat:Int))=false by rw[decide_eq_false_iff_not];omega);have e3:=QH (show decide ((s.size:Int)<(1:Int)+(s[0].toNat:Int))=false by rw[decide_eq_false_iff_not];omega);have e4:=QH (show decide ((0:Int)<(s[0].toNat:Int))=true by rw[decide_eq_true_iff];omega);have e5:=QH (show((s[1].toNat:Int) == 0)=true by rw[beq_iff_eq];omega);clear h0;go_enter func214,ntmps214;go_wp2;have f1:=e1.out;have f2:=e2.out;have f3:=e3.out;have f4:=e4.out;have f5:=e5.out;go_quiet (fail);have hq:bD c s false (w.drewN nq):=h;go_wp2_with (go_at_call 260;refine(dH c s false _ hq).mono ?_);rintro e w2 ⟨rfl,rX,hg2⟩;have Hg:=QH (uF hg2);clear hg2;go_wp2;go_ret;exact⟨Hg.out,rfl,rX⟩
theorem wO (s:ByteArray)(k:Nat):bl (s.extract k s.size)=(bl s).drop k:=by
 obtain⟨⟨l⟩⟩:=s;simp only[bl,ByteArray.size];simp;exact List.take_of_length_le (by simp)
def yF (s:ByteArray):List UInt8:=(bl s).drop 1
theorem iA (s:ByteArray):(yF s).length=s.size-1:=by unfold yF;rw[List.length_drop,zn]
theorem tq (s:ByteArray)(j:Nat)(h:j+1<s.size):(yF s)[j]'(by rw[iA];omega)=s[j+1]:=by
 unfold yF;rw[List.getElem_drop];have:=qvd s (j+1) h;rw[← this]
 congr 1
 omega
def qmq (c:Nat)(s:ByteArray)(k:Nat)(w:World)(e:Ending)(w':World):Prop :=
 w.grownBy w' (some c)∧e=.returned (.int .u64 ((val ((yF s).take k):Nat):Int))∧bD c (s.extract (1+k) s.size) false w'
def q4F (d:List UInt8)(k:Nat)(n i:Value):Prop:=∃j:Nat,j≤k∧i=.int .i64 ((j:Int)+1)∧n=.int .u64 ((val (d.take j):Nat):Int)
theorem qvf(c:Nat)(s:ByteArray)(w:World)(h:bD c s false w)(hp:1<s.size)(hk:s[0].toNat≤8)(hl:1+s[0].toNat≤s.size)(hk0:0<s[0].toNat)(h0:s[1].toNat≠0) :
    Calls prog 214 #[.pointer (some ⟨c,0,none⟩)] w (qmq c s s[0].toNat w):=by
 obtain⟨h1,h2,h3,h4⟩:=h.cells;have hp0:0<s.size:=by omega
 have hpi:(0:Int)<(s.size:Int):=by omega
 have e1:=QH (show((s.size:Int) == 0)=false by rw[beq_eq_false_iff_ne];omega);have q4E:(1:Int)<(s.size:Int):=by omega
 have e2:=QH (show decide ((8:Int)<(s[0].toNat:Int))=false by rw[decide_eq_false_iff_not];omega);have e3:=QH (show decide ((s.size:Int)<(1:Int)+(s[0].toNat:Int))=false by rw[decide_eq_false_iff_not];omega);have e4:=QH (show decide ((0:Int)<(s[0].toNat:Int))=true by rw[decide_eq_true_iff];omega);have e5:=QH (show((s[1].toNat:Int) == 0)=false by rw[beq_eq_false_iff_ne];omega);clear h0;go_enter func214,ntmps214;go_wp2;have f1:=e1.out;have f2:=e2.out;have f3:=e3.out;have f4:=e4.out;have f5:=e5.out;go_quiet (fail);obtain⟨W,hW⟩:∃W,W=w.drewN nq:=⟨_,rfl⟩;have hq:bD c s false W:=by rw[hW];exact h
 have hgW:=QH (show w.grownBy W (some c)from by rw[hW];exact grown_drewN (ki w _) nq);rw[← hW];clear hW h h1 h2 h3 h4;obtain⟨h1,h2,h3,h4⟩:=hq.cells;have hx:(s.extract (1+s[0].toNat) s.size).size≤1000000:=by have:=hq.2;simp;omega
 have HQ:=QH (hq.qmo _ hx);have HG:=QH (aO c 0 W (.string (s.extract (1+s[0].toNat) s.size)));have hs1:s.size≤1000000:=hq.2;have hdl:=QH (iA s);have HL:=QH hl;clear hq;go_wp2;go_loop [3,5] (fun n i=>q4F (yF s) s[0].toNat n i) (fun _ i=>s[0].toNat+1-(intOf i).toNat);case atStart=>exact⟨0,Nat.zero_le _,rfl,rfl⟩
 case round =>
  obtain⟨j,hj,rfl,rfl⟩:=hrel;have hl2:=HL.out;by_cases hlt:j<s[0].toNat
  ·have hd:=hdl.out;have hs:=qcp (yF s) j (by omega);have hb:val ((yF s).take j)<72057594037927936:=by
    have a:=qeL ((yF s).take j);have b:256 ^ ((yF s).take j).length≤256 ^ 7:=Nat.pow_le_pow_right (by omega) (by rw[List.length_take];omega);have e:(256:Nat) ^ 7=72057594037927936:=by decide
    omega
   have gZ:j+1<s.size:=by omega
   have hg:=tq s j gZ;rw[hg]at hs;have Hs:=QH hs;have hzb:s[j+1].toNat<256:=s[j+1].toNat_lt;have zbI:(j:Int)+1<(s.size:Int):=by omega
   clear hs hg hd;generalize val ((yF s).take j)=v at *;go_wp2;exact⟨⟨j+1,by omega,by go_num,by rw[Hs.out];go_num⟩,by simp[intOf];omega⟩
  ·have hjk:s[0].toNat≤j:=by omega
   have hjj:j=s[0].toNat:=by omega
   have Hj:=QH hjj;clear hjj;go_wp2;go_ret;exact⟨x9 hgW.out HG.out,by rw[← Hj.out];rfl,HQ.out⟩
def qqN (c:Nat)(s:ByteArray)(w:World)(e:Ending)(w':World):Prop :=
 w.grownBy w' (some c)∧e=.returned (.int .u64 0)∧bD c (s.extract 1 s.size) false w'
theorem qqO(c:Nat)(s:ByteArray)(w:World)(h:bD c s false w)(hp:0<s.size)(hk0:s[0].toNat=0) :
    Calls prog 214 #[.pointer (some ⟨c,0,none⟩)] w (qqN c s w):=by
 obtain⟨h1,h2,h3,h4⟩:=h.cells;have hpi:(0:Int)<(s.size:Int):=by omega
 have e1:=QH (show((s.size:Int) == 0)=false by rw[beq_eq_false_iff_ne];omega);have e3:=QH (show decide ((s.size:Int)<(1:Int))=false by rw[decide_eq_false_iff_not];omega);go_enter func214,ntmps214;go_wp2;have f1:=e1.out;have f3:=e3.out;go_quiet (fail);obtain⟨W,hW⟩:∃W,W=w.drewN nq:=⟨_,rfl⟩;have hq:bD c s false W:=by rw[hW];exact h
 have hgW:=QH (show w.grownBy W (some c)from by rw[hW];exact grown_drewN (ki w _) nq);rw[← hW];clear hW h h1 h2 h3 h4;obtain⟨h1,h2,h3,h4⟩:=hq.cells;have hx:(s.extract 1 s.size).size≤1000000:=by have:=hq.2;simp;omega
 have HQ:=QH (hq.qmo _ hx);have HG:=QH (aO c 0 W (.string (s.extract 1 s.size)));have hs1:s.size≤1000000:=hq.2;have hs2:1≤s.size:=hp;clear hq;go_wp2;go_loop [3,5] (fun n i=>n=.int .u64 0∧i=.int .i64 1) (fun _ i=>1-(intOf i).toNat);case atStart=>exact⟨rfl,rfl⟩
 case round =>
  obtain⟨rfl,rfl⟩:=hrel;go_wp2;go_ret;exact⟨x9 hgW.out HG.out,rfl,HQ.out⟩
theorem wR (k:UInt8)(r:List UInt8):rdNum (k::r) =
    if 8<k.toNat then none else if r.length<k.toNat then none else if (r.take k.toNat).head? = some 0 then none else some (val (r.take k.toNat),r.drop k.toNat):=rfl
theorem qfd(s:ByteArray)(k:Nat):(bl s).drop (1+k)=(yF s).drop k:=by
 unfold yF;rw[List.drop_drop]
theorem qzi(c:Nat)(s:ByteArray)(w:World)(h:bD c s false w) :
    Calls prog 214 #[.pointer (some ⟨c,0,none⟩)] w (qfc c s w):=by
 have hno:∀e w',rdNum (bl s)=none→tj c w e w'→qfc c s w e w':=fun e w' hn ⟨h1,h2,h3⟩=>⟨h1,.inr ⟨hn,h2,h3⟩⟩;by_cases hp:0<s.size
 ·have hc:=qqK s hp;have hrl:(yF s).length=s.size-1:=iA s;have qzj:∀e w',¬ 8<s[0].toNat→¬ (yF s).length<s[0].toNat→¬ ((yF s).take s[0].toNat).head? = some 0→qmq c s s[0].toNat w e w'→qfc c s w e w':=fun e w' g1 g2 g3 ⟨h1,h2,h3⟩ =>
   ⟨h1,.inl ⟨_,(yF s).drop s[0].toNat,_,by rw[hc];show rdNum (s[0]::yF s)=_;rw[wR,if_neg g1,if_neg g2,if_neg g3],h2,by rw[wO,qfd],h3⟩⟩
  by_cases hk:s[0].toNat≤8
  ·by_cases hl:1+s[0].toNat≤s.size
   ·by_cases hk0:s[0].toNat=0
    ·refine(qqO c s w h hp hk0).mono fun e w' ⟨h1,h2,h3⟩=>qzj e w' (by omega) (by omega) (by rw[hk0];simp) ⟨h1,by rw[h2,hk0];rfl,by rw[hk0];exact h3⟩
    ·have hp1:1<s.size:=by omega
     have qt3:((yF s).take s[0].toNat).head? = some s[1]:=by
      have:=tq s 0 hp1;cases hr:yF s with
      | nil=>rw[hr]at hrl;simp at hrl;omega
      | cons y q =>
       obtain⟨k,zX⟩:∃k,s[0].toNat=k+1:=⟨s[0].toNat-1,by omega⟩;simp only[hr,List.getElem_cons_zero,Nat.zero_add]at this;rw[zX,List.take_succ_cons,List.head?_cons,this]
     by_cases h0:s[1].toNat=0
     ·refine(qve c s w h hp1 hk hl (by omega) h0).mono fun e w'=>hno e w' ?_;rw[hc];show rdNum (s[0]::yF s)=none;have hz:s[1]=0:=by apply UInt8.toNat_inj.1;simpa using h0
      rw[wR,if_neg (by omega),if_neg (by omega),if_pos (by rw[qt3,hz])]
     ·refine(qvf c s w h hp1 hk hl (by omega) h0).mono fun e w'=>qzj e w' (by omega) (by omega) ?_;rw[qt3];intro hz;simp only[Option.some.injEq]at hz;exact h0 (by rw[hz];rfl)
   ·refine(qqM c s w h hp hk (by omega)).mono fun e w'=>hno e w' ?_;rw[hc];show rdNum (s[0]::yF s)=none;rw[wR,if_neg (by omega),if_pos (by omega)]
  ·refine(qzg c s w h hp (by omega)).mono fun e w'=>hno e w' ?_;rw[hc];show rdNum (s[0]::yF s)=none;rw[wR,if_pos (by omega)]
 ·refine(qqL c s w h (by omega)).mono fun e w'=>hno e w' ?_;have:bl s=[]:=List.length_eq_zero_iff.1 (by rw[zn];omega);rw[this];rfl
end Go.Proofs.YtdpbdkacngaemaaGreatDoor.wi
namespace Go.Proofs.YtdpbdkacngaemaaGreatDoor.mt
open _root_.Go.Proofs.Tryz Go Go.RowKit ib wi
def QS (w:World)(c:Nat)(s:St):Prop:=match s with
 | none=>∃q,bD c q true w
 | some l=>∃q,bl q=l∧bD c q false w
structure RS(w:World)(p c b:Nat)(s:St):Prop where
 blk:qd w p 210 #[.pointer (some ⟨c,0,none⟩),.int .i64 (b:Int)]
 ne:c≠p
 left:QS w c s
def Tc (c:Nat)(j:Nat):Prop:=j=c
theorem jB {w w':World}{c:Nat}(h:w.grownBy w' (some c)):qB (Tc c) w w':=⟨h.os,h.tape,h.output,h.size,fun k hk hn=>h.block k hk (fun e=>hn (by simpa[Tc]using e))⟩
theorem QS.lt{w:World}{c:Nat}{s:St}(h:QS w c s):c<w.heap.size:=by
 unfold QS at h;split at h
 ·obtain⟨q,h1,_⟩:=h;exact(Array.getElem?_eq_some_iff.1 h1).1
 ·obtain⟨q,_,h1,_⟩:=h;exact(Array.getElem?_eq_some_iff.1 h1).1
theorem QS.block{w w':World}{c:Nat}{s:St}(h:QS w c s)(hb:w'.heap[c]?=w.heap[c]?):QS w' c s:=by
 unfold QS at h ⊢;split at h
 ·obtain⟨q,h1,h2⟩:=h;exact⟨q,hb.trans h1,h2⟩
 ·obtain⟨q,h0,h1,h2⟩:=h;exact⟨q,h0,hb.trans h1,h2⟩
theorem RS.below{w w':World}{p c b:Nat}{s:St}(h:RS w p c b s)(hb:Below w.heap.size w w'):RS w' p c b s:=⟨h.blk.below hb,h.ne,h.left.block (hb.block _ h.left.lt)⟩
theorem RS.turn{w w':World}{p c b:Nat}{s s':St}(h:RS w p c b s)(hb:qB (Tc c) w w')(hq:QS w' c s'):RS w' p c b s':=⟨h.blk.of_block (hb.block _ h.blk.lt (fun e=>h.ne e.symm)),h.ne,hq⟩
def qfe (c:Nat)(s:St)(w:World)(e:Ending)(w':World):Prop:=e=.returned (.int .u64 ((xd s).1:Int))∧qB (Tc c) w w'∧QS w' c (xd s).2
theorem ew {w:World}{c:Nat}{s:St}(h:QS w c s):Calls prog 214 #[.pointer (some ⟨c,0,none⟩)] w (qfe c s w):=by
 unfold QS at h;split at h
 ·obtain⟨q,h1⟩:=h;refine(qzf c q w h1).mono ?_;rintro e w' ⟨hg,rfl,hq⟩;exact⟨rfl,jB hg,_,hq⟩
 ·obtain⟨q,rfl,h1⟩:=h;refine(qzi c q w h1).mono ?_;rintro e w' ⟨hg,⟨n,r,s',h2,rfl,h3,hq⟩|⟨h2,rfl,hq⟩⟩
  ·have hn:xd (some (bl q))=(n,some r):=by unfold xd;simp only[h2]
   unfold qfe;rw[hn];exact⟨rfl,jB hg,s',h3,hq⟩
  ·have hn:xd (some (bl q))=(0,none):=by unfold xd;simp only[h2]
   unfold qfe;rw[hn];exact⟨rfl,jB hg,_,hq⟩
def qvh (p c b:Nat)(s:St)(w:World)(e:Ending)(w':World):Prop:=e=.returned (gv (kS s).1)∧qB (Tc c) w w'∧RS w' p c b (kS s).2
theorem xy {w:World}{p c b:Nat}{s:St}(h:RS w p c b s):Calls prog 133 #[.pointer (some ⟨p,0,none⟩)] w (qvh p c b s w):=by
 have hb0:=(Below.refl w.heap.size w).alloc (Nat.le_refl _) (.cells #[.int .u64 0,.int .u64 0] 38);have fX:=QH (h.below hb0);have mo:=QH (qd.new w 38 #[.int .u64 0,.int .u64 0]);have jw:=QH (qB.of_below (S:=Tc c) hb0);have kK:=QH h.left.lt;have HPL:=QH h.blk.lt;obtain⟨w0,hw0⟩:=QE (w.alloc (.cells #[.int .u64 0,.int .u64 0] 38));rw[hw0]at fX mo jw;have c0:=fX.out.blk.cell 0;simp only[QA,QB,QC]at c0;have hlt:=fX.out.blk.lt;clear h hb0;go_enter func133,ntmps133;go_wp2_with fail;try rw[hw0]
 clear hw0 c0;refine(ew fX.out.left).mono ?_;rintro e W1 ⟨rfl,hb1,hq1⟩;have uu:=QH (fX.out.turn hb1 hq1);have fY:=QH (mo.out.of_block (hb1.block _ mo.out.lt (fun e=>by have:=kK.out;unfold Tc at e;omega)));have qT:=QH (jw.out.trans hb1 (fun i hi=>.inl hi));clear hb1 hq1 jw mo;have c0:=uu.out.blk.cell 0;simp only[QA,QB,QC]at c0;have hlt:=uu.out.blk.lt;obtain⟨x,hx⟩:=QE ((xd s).1:Nat);rw[hx];have HX:=QH hx;clear hx;dsimp only;go_wp2_with fail;refine(ew uu.out.left).mono ?_;rintro e W2 ⟨rfl,hb2,rX⟩;have jO:=QH (uu.out.turn hb2 rX);have wh:=QH (fY.out.of_block (hb2.block _ fY.out.lt (fun e=>by have:=kK.out;unfold Tc at e;omega)));have qC:=QH (qT.out.trans hb2 (fun i hi=>.inl hi));obtain⟨y,hy⟩:=QE ((xd (xd s).2).1:Nat);rw[hy];have HY:=QH hy;have q0:=wh.out.cell 0;have q1:=wh.out.cell 1;simp only[QA,QB,QC]at q0 q1;have f0:=wh.out.frozen 0;have f1:=wh.out.frozen 1;have hlA:=wh.out.lt;clear hy hb2 rX qT fY c0;dsimp only;go_wp2_with fail;have lD:=QH ((wh.out.qo 0 (.int .u64 (x:Int))).qo 1 (.int .u64 (y:Int)));have q0:=lD.out.cell 0;have q1:=lD.out.cell 1;simp at q0 q1;have HG:Hid (gv (kS s).1=.agg #[.int .u64 (x:Int),.int .u64 (y:Int)]):=by unfold Hid gv kS;dsimp only;rw[HX.out,HY.out]
 refine bodyPost_ret (v:=.agg #[.int .u64 (x:Int),.int .u64 (y:Int)]) (by simp[results,results133,go_sem,q0,q1]) rfl ?_;have hnew:∀(k:Nat) (u:Value) (W:World),qB (Tc c) w W→qB (Tc c) w (W.setCell ⟨w.heap.size,k,none⟩ u):=fun k u W h=>h.setCell _ _ (.inr (Nat.le_refl _));refine⟨by rw[HG.out],hnew _ _ _ (hnew _ _ _ qC.out),?_⟩;have hr:=jO.out;have hp:=HPL.out;have hc:=kK.out;have hbb:∀(k:Nat) (u:Value) (W:World),RS W p c b (kS s).2→RS (W.setCell ⟨w.heap.size,k,none⟩ u) p c b (kS s).2:=fun k u W h =>
  ⟨h.blk.of_block (Below.heap_setCell _ _ _ _ (fun e=>by simp at e;omega)),h.ne,h.left.block (Below.heap_setCell _ _ _ _ (fun e=>by simp at e;omega))⟩
 exact hbb _ _ _ (hbb _ _ _ hr)
end Go.Proofs.YtdpbdkacngaemaaGreatDoor.mt
namespace Go.Proofs.YtdpbdkacngaemaaGreatDoor.ib
open _root_.Go.Proofs.Tryz Go Go.RowKit
theorem uG {w:World}{a b:Nat}{t u:TypeId}{x y:Array Value}(h:qd w a t x)(k:qd w b u y)(hn:t≠u):a≠b:=by
 rintro rfl;unfold qd at h k;rw[h]at k;simp only[Option.some.injEq,Obj.cells.injEq]at k;exact hn k.2.1
theorem ey {w:World}{base e size n a:Nat}{v:Value}{xs:List Value}{t:TypeId}{x:Array Value}(h:w.ownsRow base e size v n xs)(k:qd w a t x)(hn:t≠e):∀j,v.ownBlock=some j→j≠a:=by
 intro j hj;rcases h.2 with⟨rfl,_⟩|⟨g,cap,cur,rfl,_,hg,_⟩
 ·cases hj
 ·simp[Value.ownBlock]at hj;subst hj;exact(uG k hg hn).symm
theorem zf {w w':World}{base e size n:Nat}{v:Value}{zs:List Value}(h:w.ownsRow base e size v n zs)(hb:∀k,v.ownBlock=some k→w'.heap[k]?=w.heap[k]?):w'.ownsRow base e size v n zs:=by
 refine⟨h.1,?_⟩;rcases h.2 with h2|⟨g',cap,cur,h1,h2,h3,h4⟩
 ·exact .inl h2
 ·refine .inr ⟨g',cap,cur,h1,h2,(hb g' ?_).trans h3,h4⟩;rw[h1];rfl
theorem nE {w:World}{B B' e size n:Nat}{v:Value}{zs:List Value}(h:w.ownsRow B e size v n zs)(hB:B'≤B):w.ownsRow B' e size v n zs:=by
 refine⟨h.1,?_⟩;rcases h.2 with h2|⟨g',cap,cur,h1,h2,h3⟩
 ·exact .inl h2
 ·exact .inr ⟨g',cap,cur,h1,Nat.le_trans hB h2,h3⟩
theorem xQ {w:World}{base e size n:Nat}{v:Value}{xs:List Value}(h:w.ownsRow base e size v n xs):∃A c,v=.slice A n c:=by
 rcases h.2 with⟨rfl,rfl⟩|⟨g,cap,cur,rfl,_⟩
 ·exact⟨none,0,rfl⟩
 ·exact⟨_,cap,rfl⟩
theorem qy (w:World)(g i:Nat)(u:Value)(k:Nat)(h:k≠g):(w.setCell ⟨g,i,none⟩ u).heap[k]?=w.heap[k]? :=Below.heap_setCell _ _ _ _ h
def Kp (r:TypeId)(w w':World):Prop:=∀j t cs,t≠r→qd w j t cs→qd w' j t cs
theorem Kp.refl(r:TypeId)(w:World):Kp r w w:=fun _ _ _ _ h=>h
theorem Kp.trans{r:TypeId}{a b c:World}(h:Kp r a b)(k:Kp r b c):Kp r a c:=fun j t cs hn hb=>k j t cs hn (h j t cs hn hb)
theorem Kp.of_below{r:TypeId}{w w':World}(h:Below w.heap.size w w'):Kp r w w':=fun _ _ _ _ hb=>hb.below h
theorem Kp.nG{r:TypeId}{w w':World}{c:Nat}{x:Array Value}(h:qB (fun j=>j=c) w w')(hc:qd w c r x):Kp r w w':=fun j t cs hn hb =>
 hb.of_block (h.block j hb.lt (uG hb hc hn))
theorem Kp.vJ{r:TypeId}{w:World}{g:Nat}{x:Array Value}(i:Nat)(u:Value)(hg:qd w g r x):Kp r w (w.setCell ⟨g,i,none⟩ u):=fun j t cs hn hb =>
 hb.of_block (qy _ _ _ _ _ (uG hb hg hn))
theorem Kp.row{r:TypeId}{w w':World}{base e size n:Nat}{v:Value}{zs:List Value}(h:Kp r w w')(hn:e≠r)(ho:w.ownsRow base e size v n zs):w'.ownsRow base e size v n zs:=by
 refine⟨ho.1,?_⟩;rcases ho.2 with h2|⟨g',cap,cur,h1,h2,h3,h4⟩
 ·exact .inl h2
 ·exact .inr ⟨g',cap,cur,h1,h2,h g' e cur hn h3,h4⟩
end Go.Proofs.YtdpbdkacngaemaaGreatDoor.ib
namespace Go.Proofs.YtdpbdkacngaemaaGreatDoor.mt
open _root_.Go.Proofs.Tryz Go Go.RowKit ib wi
theorem qmr:(prog.info? 141).map (fun i=>(i.zero,i.size,i.bytes))=some (some (.agg #[.int .u64 0,.int .u64 0,.slice none 0 0,.bool false]),4,48):=by kernel_rfl
abbrev eA:=Sp × Value
def iB (x:eA):List Value:=[.int .u64 (x.1.g.1:Int),.int .u64 (x.1.g.2:Int),x.2,.bool x.1.hid]
def zG:List eA→List Value
 | []=>[]
 | x::r=>iB x++zG r
theorem eB:∀(l r:List eA),zG (l++r)=zG l++zG r
 | [],_=>rfl
 | x::l,r=>by
  show iB x++zG (l++r)=iB x++zG l++zG r;rw[eB l r,List.append_assoc]
theorem qiF(x:eA):zG [x]=iB x:=by simp[zG]
theorem yU:∀l:List eA,(zG l).length=l.length*4
 | []=>rfl
 | x::l=>by simp[zG,iB,yU l];omega
theorem xR:∀(l:List eA) (i:Nat) (h:i<l.length) (j:Nat),j<4→(zG l)[i*4+j]?=(iB l[i])[j]?
 | x::l,0,_,j,hj=>by
  show(iB x++zG l)[0*4+j]?=_;rw[List.getElem?_append_left (by simp[iB];omega),Nat.zero_mul,Nat.zero_add];rfl
 | x::l,i+1,h,j,hj=>by
  have:=xR l i (by simpa using h) j hj;show(iB x++zG l)[(i+1)*4+j]?=_;rw[List.getElem?_append_right (by simp[iB];omega)];rw[show(i+1)*4+j-(iB x).length=i*4+j from by simp[iB];omega];exact this
theorem dI (w:World)(B:Nat):zj w B (.slice none 0 0) []:=World.ownsRow_nil _ _ _ _
def wS (w:World)(B:Nat)(v:Value)(xs:List eA):Prop:=w.ownsRow B 141 4 v xs.length (zG xs)∧∀x∈xs,zj w B x.2 x.1.qu
theorem wS.nil(w:World)(B:Nat):wS w B (.slice none 0 0) []:=⟨World.ownsRow_nil _ _ _ _,fun x hx=>absurd hx (by simp)⟩
section
variable {w w':World} {B:Nat} {v:Value} {xs:List eA} {r:TypeId}
theorem wS.kp(h:wS w B v xs)(hk:Kp r w w')(h1:141≠r)(h2:3≠r):wS w' B v xs :=
 ⟨hk.row h1 h.1,fun x hx=>hk.row h2 (h.2 x hx)⟩
theorem wS.below(h:wS w B v xs)(hb:Below w.heap.size w w'):wS w' B v xs:=h.kp (r:=1000000) (Kp.of_below hb) (by decide) (by decide)
theorem uH {zs:List Int}(h:zj w B v zs)(hk:Kp r w w')(h1:3≠r):zj w' B v zs:=hk.row h1 h
theorem qhz{zs:List Int}(h:zj w B v zs)(hz:∀z∈zs,qG z):∃A c,v=.slice A zs.length c∧jv w A zs c:=by
 rcases h.2 with⟨rfl,h0⟩|⟨g,cap,cur,rfl,hg,hh,hcc,hm,hcs,xg⟩
 ·obtain rfl:zs=[]:=List.length_eq_zero_iff.1 h0;exact⟨none,0,rfl,jv.none _⟩
 ·obtain⟨A,cc,hv,hi,hb⟩:=zj.view h hz;simp only[Value.slice.injEq]at hv;obtain⟨rfl,_,rfl⟩:=hv;exact⟨_,_,rfl,hi,by omega,fun h=>by cases h⟩
theorem wS.view(h:wS w B v xs)(hz:∀x∈xs,∀z∈x.1.qu,qG z)(hg:∀x∈xs,xF x.1.g) :
    ∃A c,v=.slice A (xs.map (·.1)).length c∧jN w A (xs.map (·.1))∧((xs.map (·.1)).length≤c∧(A=none→(xs.map (·.1)).length=0∧c=0)):=by
 obtain⟨h1,h2⟩:=h;rcases h1.2 with⟨rfl,h0⟩|⟨g,cap,cur,rfl,hgB,hh,hcc,hm,hcs,xg⟩
 ·obtain rfl:xs=[]:=List.length_eq_zero_iff.1 h0;exact⟨none,0,rfl,jN.nil _ _,Nat.le_refl _,fun _=>⟨rfl,rfl⟩⟩
 ·refine⟨some ⟨g,0,none⟩,cap,by simp,fun i hi=>?_,by simpa using hcc,fun h=>by cases h⟩;have hix:i<xs.length:=by simpa using hi
  have jX:g<w.heap.size:=(Array.getElem?_eq_some_iff.1 hh).1;have key:∀(j:Nat) (u:Value),(zG xs)[j]?=some u→w.cell? ⟨g,j,none⟩=some u:=by
   intro j u hu;rw[cell_of_row w g j cur 141 (0,0) hh];rw[← xg,List.getElem?_take]at hu;split at hu
   ·simpa using hu
   ·cases hu
  obtain⟨A',c',hv,dx⟩:=qhz (h2 _ (List.getElem_mem hix)) (hz _ (List.getElem_mem hix));have e:(xs.map (·.1))[i]=xs[i].1:=by simp
  rw[e];refine⟨g,0,A',c',rfl,jX,?_,?_,?_,?_,dx,hg _ (List.getElem_mem hix)⟩
  ·rw[Nat.zero_add];have:=key (i*4+0) _ (xR xs i hix 0 (by omega));exact this
  ·rw[Nat.zero_add];exact key (i*4+1) _ (xR xs i hix 1 (by omega))
  ·rw[Nat.zero_add];have:=key (i*4+2) _ (xR xs i hix 2 (by omega));rw[← hv];exact this
  ·rw[Nat.zero_add];exact key (i*4+3) _ (xR xs i hix 3 (by omega))
end
end Go.Proofs.YtdpbdkacngaemaaGreatDoor.mt

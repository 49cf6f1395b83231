/- FIns, FCopy, FCut, FEq, FPack, DkUsed, DkBack, DkWrite2, DkFlush, DkWake, DkZero, DkIn, DkNil, DkInG, WiText. -/
import Derived.Test.YtdpbdkacngaemaaGreatDoorZK12
import Derived.Laws.BitsAllLaws
import Derived.RangeFuncNested
import Derived.RangeFuncBound
import Derived.RangeFuncCalls
import Derived.RangeFuncLeaves
import Derived.Shelf.Abstract
import Derived.Shelf.RegionOpen
import Derived.OwnWalkIn
import Derived.TacticsInMore
import Derived.LoopNIn
import Derived.LoopIn
import Derived.RegionTactic
import Derived.BigRegion
set_option linter.unusedVariables false
set_option linter.unusedSimpArgs false
set_option maxHeartbeats 30000000
set_option maxRecDepth 100000
namespace Go.Proofs.YtdpbdkacngaemaaGreatDoor
open _root_.Go.Proofs.Tryz Go.RowKit
def qeU (r:Option (List UInt8))(w:World)(e:Ending)(w':World):Prop :=
 e=.returned (.tuple #[.string (str (r.getD [])),.bool r.isSome])∧Below w.heap.size w w'
theorem sO (n:Nat)(h:n<9223372036854775808):IntKind.i64.wrap (n:Int)=(n:Int):=by
 have e:(n:Int)%2 ^ 64=n:=Int.emod_eq_of_lt (by omega) (by omega);simp only[IntKind.wrap,IntKind.bits,IntKind.signed,e];rw[if_neg];simp;omega
theorem qkc(a b:Nat)(ha:a<256)(hb:b<256):bits .or .i64 ((a:Int)*256) (b:Int)=((256*a+b:Nat):Int):=by
 have e:((a:Int)*256)=((a*256:Nat):Int):=by omega
 rw[e];show IntKind.i64.wrap ((BitVec.ofInt 64 ((a*256:Nat):Int) ||| BitVec.ofInt 64 (b:Int)).toNat:Int)=_;rw[BitVec.toNat_or,ofInt_u64 _ (by omega),ofInt_u64 b (by omega)];have e2:a*256 ||| b=256*a+b:=by
  rw[show a*256=a <<< 8 from by rw[Nat.shiftLeft_eq],← Nat.shiftLeft_add_eq_or_of_lt (by omega),Nat.shiftLeft_eq];omega
 rw[e2];exact sO _ (by omega)
theorem sP (s:ByteArray)(w:World)(h6:s.size<6) :
    Calls prog 198 #[.string s] w (qeU (oq (bl s)) w):=by
 rw[qdc (bl s) (by rw[zg];exact h6)];go_enter func198,ntmps198;go_wp2;go_ret2;exact⟨rfl,Below.refl _ _⟩
theorem qbj(s:ByteArray)(w:World)(hs:s.size≤140737488355328)(h6:6≤s.size) :
    Calls prog 198 #[.string s] w (qeU (oq (bl s)) w):=by
 have hi:=qeJ (bl s) (by rw[zg];exact h6);have h0:=(s[0]'(by omega)).toNat_lt;have h1:=(s[1]'(by omega)).toNat_lt;have qkd:=qkc _ _ h0 h1;obtain⟨n,hn⟩:∃n:Nat,n=256*(s[0]'(by omega)).toNat+(s[1]'(by omega)).toNat:=⟨_,rfl⟩;have e0:(bl s)[0]'(by rw[zg];omega)=s[0]'(by omega):=rfl;have e1:(bl s)[1]'(by rw[zg];omega)=s[1]'(by omega):=rfl;rw[e0,e1,← hn,zg]at hi;rw[← hn]at qkd;have w0:wrap64 ((s[0]'(by omega)).toNat:Int)=((s[0]'(by omega)).toNat:Int):=by unfold wrap64;omega
 have w1:wrap64 ((s[1]'(by omega)).toNat:Int)=((s[1]'(by omega)).toNat:Int):=by unfold wrap64;omega
 have w2:wrap64 (((s[0]'(by omega)).toNat:Int)*256)=((s[0]'(by omega)).toNat:Int)*256:=by unfold wrap64;omega
 have hw:bits .or .i64 (wrap64 (wrap64 ((s[0]'(by omega)).toNat:Int)*256)) (wrap64 ((s[1]'(by omega)).toNat:Int))=(n:Int):=by rw[w0,w1,w2];exact qkd
 have Hw:=QH hw;clear qkd w0 w1 w2 hw;have hnl:n<65536:=by omega
 have j0:0<s.size:=by omega
 have j1:1<s.size:=by omega
 have i0:(0:Int)<(s.size:Int):=by omega
 have i1:(1:Int)<(s.size:Int):=by omega
 have Hi:=QH hi;clear hi hn e0 e1 h0 h1;go_enter func198,ntmps198;go_wp2;go_quiet (fail);rw[Hw.out];have hz:(s.extract 6 s.size).size=s.size-6:=by simp
 have hx:bl (s.extract 6 s.size)=(bl s).drop 6:=qep s 6;have Hx:=QH hx;clear hx;generalize s.extract 6 s.size=t at *;by_cases hlt:s.size-6<n
 ·have hc:(t.size:Int)<(n:Int):=by omega
  go_wp2;go_ret2;exact⟨by rw[Hi.out,if_pos hlt];rfl,below_drewN (Below.refl _ _) _⟩
 ·have hc:¬ (t.size:Int)<(n:Int):=by omega
  go_wp2;go_ret2;refine⟨?_,below_drewN (Below.refl _ _) _⟩;rw[Hi.out,if_neg hlt];have:t.extract 0 n=str (((bl s).drop 6).take n):=by rw[← Hx.out,← qmq,cJ]
  rw[this];rfl
theorem mG (s:ByteArray)(w:World)(hs:s.size≤140737488355328) :
    Calls prog 198 #[.string s] w (qeU (oq (bl s)) w):=by
 by_cases h:s.size<6
 ·exact sP s w h
 ·exact qbj s w hs (by omega)
theorem qdz(w:World)(x:ByteArray) :
    (Builtin.copy_ #[64,9] 3 #[.slice (some ⟨w.heap.size,0,none⟩) 32 32,.string x]).run prog (w.alloc (.cells #[Value.int IntKind.u8 0,Value.int IntKind.u8 0,Value.int IntKind.u8 0,Value.int IntKind.u8 0,Value.int IntKind.u8 0,Value.int IntKind.u8 0,Value.int IntKind.u8 0,Value.int IntKind.u8 0,Value.int IntKind.u8 0,Value.int IntKind.u8 0,Value.int IntKind.u8 0,Value.int IntKind.u8 0,Value.int IntKind.u8 0,Value.int IntKind.u8 0,Value.int IntKind.u8 0,Value.int IntKind.u8 0,Value.int IntKind.u8 0,Value.int IntKind.u8 0,Value.int IntKind.u8 0,Value.int IntKind.u8 0,Value.int IntKind.u8 0,Value.int IntKind.u8 0,Value.int IntKind.u8 0,Value.int IntKind.u8 0,Value.int IntKind.u8 0,Value.int IntKind.u8 0,Value.int IntKind.u8 0,Value.int IntKind.u8 0,Value.int IntKind.u8 0,Value.int IntKind.u8 0,Value.int IntKind.u8 0,Value.int IntKind.u8 0] 145)) =
     .ok (.int .i64 ((min x.size 32:Nat):Int)) (w.alloc (.cells (Lib.byteCells (pad ((bl x).take 32))).toArray 145)):=by
 obtain⟨i0,hi,hz0,hz1,hz2⟩:=info_parts Tryz.qae;have hlen:(Lib.byteCells ((bl x).take 32)).length=min x.size 32:=by rw[Lib.byteCells_length,List.length_take,zg,Nat.min_comm]
 have hst:=run_storeCells_at prog w.heap.size 0 145 (Lib.byteCells ((bl x).take 32)) 0 #[Value.int IntKind.u8 0,Value.int IntKind.u8 0,Value.int IntKind.u8 0,Value.int IntKind.u8 0,Value.int IntKind.u8 0,Value.int IntKind.u8 0,Value.int IntKind.u8 0,Value.int IntKind.u8 0,Value.int IntKind.u8 0,Value.int IntKind.u8 0,Value.int IntKind.u8 0,Value.int IntKind.u8 0,Value.int IntKind.u8 0,Value.int IntKind.u8 0,Value.int IntKind.u8 0,Value.int IntKind.u8 0,Value.int IntKind.u8 0,Value.int IntKind.u8 0,Value.int IntKind.u8 0,Value.int IntKind.u8 0,Value.int IntKind.u8 0,Value.int IntKind.u8 0,Value.int IntKind.u8 0,Value.int IntKind.u8 0,Value.int IntKind.u8 0,Value.int IntKind.u8 0,Value.int IntKind.u8 0,Value.int IntKind.u8 0,Value.int IntKind.u8 0,Value.int IntKind.u8 0,Value.int IntKind.u8 0,Value.int IntKind.u8 0] (w.alloc (.cells #[Value.int IntKind.u8 0,Value.int IntKind.u8 0,Value.int IntKind.u8 0,Value.int IntKind.u8 0,Value.int IntKind.u8 0,Value.int IntKind.u8 0,Value.int IntKind.u8 0,Value.int IntKind.u8 0,Value.int IntKind.u8 0,Value.int IntKind.u8 0,Value.int IntKind.u8 0,Value.int IntKind.u8 0,Value.int IntKind.u8 0,Value.int IntKind.u8 0,Value.int IntKind.u8 0,Value.int IntKind.u8 0,Value.int IntKind.u8 0,Value.int IntKind.u8 0,Value.int IntKind.u8 0,Value.int IntKind.u8 0,Value.int IntKind.u8 0,Value.int IntKind.u8 0,Value.int IntKind.u8 0,Value.int IntKind.u8 0,Value.int IntKind.u8 0,Value.int IntKind.u8 0,Value.int IntKind.u8 0,Value.int IntKind.u8 0,Value.int IntKind.u8 0,Value.int IntKind.u8 0,Value.int IntKind.u8 0,Value.int IntKind.u8 0] 145)) (heap_alloc_new w _) (by rw[hlen];simp;omega) (Lib.byteCells_one _);rw[World.setRow_alloc_new,hlen]at hst;have hrow:(List.take (0+0) (#[Value.int IntKind.u8 0,Value.int IntKind.u8 0,Value.int IntKind.u8 0,Value.int IntKind.u8 0,Value.int IntKind.u8 0,Value.int IntKind.u8 0,Value.int IntKind.u8 0,Value.int IntKind.u8 0,Value.int IntKind.u8 0,Value.int IntKind.u8 0,Value.int IntKind.u8 0,Value.int IntKind.u8 0,Value.int IntKind.u8 0,Value.int IntKind.u8 0,Value.int IntKind.u8 0,Value.int IntKind.u8 0,Value.int IntKind.u8 0,Value.int IntKind.u8 0,Value.int IntKind.u8 0,Value.int IntKind.u8 0,Value.int IntKind.u8 0,Value.int IntKind.u8 0,Value.int IntKind.u8 0,Value.int IntKind.u8 0,Value.int IntKind.u8 0,Value.int IntKind.u8 0,Value.int IntKind.u8 0,Value.int IntKind.u8 0,Value.int IntKind.u8 0,Value.int IntKind.u8 0,Value.int IntKind.u8 0,Value.int IntKind.u8 0]:Array Value).toList++Lib.byteCells ((bl x).take 32)++List.drop (0+0+min x.size 32) (#[Value.int IntKind.u8 0,Value.int IntKind.u8 0,Value.int IntKind.u8 0,Value.int IntKind.u8 0,Value.int IntKind.u8 0,Value.int IntKind.u8 0,Value.int IntKind.u8 0,Value.int IntKind.u8 0,Value.int IntKind.u8 0,Value.int IntKind.u8 0,Value.int IntKind.u8 0,Value.int IntKind.u8 0,Value.int IntKind.u8 0,Value.int IntKind.u8 0,Value.int IntKind.u8 0,Value.int IntKind.u8 0,Value.int IntKind.u8 0,Value.int IntKind.u8 0,Value.int IntKind.u8 0,Value.int IntKind.u8 0,Value.int IntKind.u8 0,Value.int IntKind.u8 0,Value.int IntKind.u8 0,Value.int IntKind.u8 0,Value.int IntKind.u8 0,Value.int IntKind.u8 0,Value.int IntKind.u8 0,Value.int IntKind.u8 0,Value.int IntKind.u8 0,Value.int IntKind.u8 0,Value.int IntKind.u8 0,Value.int IntKind.u8 0]:Array Value).toList)=Lib.byteCells (pad ((bl x).take 32)):=by
  have hz:(#[Value.int IntKind.u8 0,Value.int IntKind.u8 0,Value.int IntKind.u8 0,Value.int IntKind.u8 0,Value.int IntKind.u8 0,Value.int IntKind.u8 0,Value.int IntKind.u8 0,Value.int IntKind.u8 0,Value.int IntKind.u8 0,Value.int IntKind.u8 0,Value.int IntKind.u8 0,Value.int IntKind.u8 0,Value.int IntKind.u8 0,Value.int IntKind.u8 0,Value.int IntKind.u8 0,Value.int IntKind.u8 0,Value.int IntKind.u8 0,Value.int IntKind.u8 0,Value.int IntKind.u8 0,Value.int IntKind.u8 0,Value.int IntKind.u8 0,Value.int IntKind.u8 0,Value.int IntKind.u8 0,Value.int IntKind.u8 0,Value.int IntKind.u8 0,Value.int IntKind.u8 0,Value.int IntKind.u8 0,Value.int IntKind.u8 0,Value.int IntKind.u8 0,Value.int IntKind.u8 0,Value.int IntKind.u8 0,Value.int IntKind.u8 0]:Array Value).toList=List.replicate 32 (Value.int IntKind.u8 0):=rfl;rw[hz,List.drop_replicate];simp[pad,Lib.byteCells,zg,Nat.min_comm]
 rw[hrow]at hst;have pq:List.take (x.size.min 32) (List.map (fun b:UInt8=>Value.int IntKind.u8 (b.toNat:Int)) x.data.toList)=Lib.byteCells ((bl x).take 32):=by
  unfold Lib.byteCells bl;rw[← List.map_take]
  congr 1
  show List.take (min x.size 32) x.data.toList=_;rw[show x.size=x.data.toList.length from(zg x).symm,Nat.min_comm,← List.take_take,List.take_length]
 simp[Builtin.copy_,run_underlying underlying64,Builtin.lenOf,Builtin.firstCells,sizeOf,typeInfo,hi];rw[pq,hst];simp[Result.andThen];rfl
def qn9 (f:List UInt8)(w:World)(v left:Value)(wr:World):Prop :=
 ∃k:Nat,left=.string (str (f.drop (32*k)))∧32*k<f.length+32∧zC wr w.heap.size v (vg k f)∧Below w.heap.size w wr
def qrr (ps:List (List UInt8))(w:World)(e:Ending)(w':World):Prop :=
 ∃v,e=.returned v∧zC w' w.heap.size v ps∧Below w.heap.size w w'
theorem qgH(w:World)(P:List UInt8)(h:P.length=32) :
    (convert 64 9 (.slice (some ⟨w.heap.size,0,none⟩) 32 32)).run prog (w.alloc (.cells (Lib.byteCells P).toArray 145))=.ok (.string (str P)) (w.alloc (.cells (Lib.byteCells P).toArray 145)):=by
 have:=run_convert_bytes_back (P:=prog) (w.alloc (.cells (Lib.byteCells P).toArray 145)) 64 9 5 ⟨w.heap.size,0,none⟩ 32 P underlying64 underlying5 underlying9 (by
  intro j hj;rw[addr_add,Nat.zero_add];simp[World.cell?,World.alloc,-World.alloc_eq,Lib.byteCells,hj])
 rw[h]at this;exact this
theorem qnA{wr:World}{B:Nat}{v:Value}{ps:List (List UInt8)}(h:zC wr B v ps)(A:Array Value)(p:List UInt8) :
    ((wr.alloc (.cells A 145)).alloc (.cells #[.string (str p)] 9)).ownsRow B 9 1 v ps.length (yf ps) :=
 World.ownsRow.alloc (World.ownsRow.alloc h (.cells A 145)) (.cells #[.string (str p)] 9)
theorem qgI(w:World)(o:Obj)(p:List UInt8) :
    ∀j u,([Value.string (str p)]:List Value)[j]?=some u→((w.alloc o).alloc (.cells #[.string (str p)] 9)).cell? ((⟨w.heap.size+1,0,none⟩:Addr).add j)=some u:=by
 intro j u hj
 match j,hj with
 | 0,hj =>
  simp at hj;subst hj;obtain⟨b,q,he,_,hc⟩:=mE [p] (w.alloc o) 0 (by simp);rw[addr_add];simp only[Option.some.injEq,Addr.mk.injEq,and_true]at he;obtain⟨h1,h2⟩:=he;have hsz:(w.alloc o).heap.size=w.heap.size+1:=by simp
  rw[← h1,← h2,hsz]at hc;exact hc
theorem pM {w:World}{B:Nat}{v:Value}{ps:List (List UInt8)}{p:List UInt8}{k:Nat}(hl:ps.length=k)(h:w.ownsRow B 9 1 v (k+1) (yf ps++[.string (str p)])):zC w B v (ps++[p]):=by
 unfold zC;rw[bO,List.length_append,hl];exact h
theorem iN (f:List UInt8)(w:World)(hs:f.length≤1000000) :
    Calls prog 177 #[.string (str f)] w (qrr (vg ((f.length+31)/32) f) w):=by
 obtain⟨i0,hi,hz0,hz1,hz2⟩:=info_parts Tryz.qiz;have hd0:str (f.drop (32*0))=str f:=by simp
 have Hd0:=QH hd0;clear hd0;go_enter func177,ntmps177;go_wp2;go_loopw [3,4] (fun v left wr=>qn9 f w v left wr) (fun _ left _=>match left with | .string x=>x.size|_=>0);case atStart=>exact⟨0,by rw[Hd0.out],by omega,World.ownsRow_nil _ _ _ _,Below.refl _ _⟩
 case round =>
  obtain⟨k,rfl,hk,hown,hB⟩:=hrel;by_cases hlt:32*k<f.length
  ·have hz:=qO (f.drop (32*k));rw[List.length_drop]at hz;have hq:(str (f.drop (32*k))).toList.isEmpty=false:=by
    rw[gX,zn,List.isEmpty_eq_false_iff];intro h;have:=congrArg List.length h;simp at this;omega
   have fR:=qdz wr (str (f.drop (32*k)));have hcv:=qgH wr (pad (kO f k)) (lM _ (wb _ _));have qke:(bl (str (f.drop (32*k)))).take 32=kO f k:=by rw[zn];rfl
   rw[qke]at fR;have qpy:(str (f.drop (32*k))).extract (min (str (f.drop (32*k))).size 32) (str (f.drop (32*k))).size=str (f.drop (32*(k+1))):=by
    rw[← cJ (ByteArray.extract _ _ _),qep,zn,List.drop_drop,hz]
    congr 1
    by_cases h:f.length-32*k≤32
    ·rw[Nat.min_eq_left h,List.drop_of_length_le (by omega),List.drop_of_length_le (by omega)]
    ·rw[Nat.min_eq_right (by omega)];rw[show 32*(k+1)=32*k+32 from by omega]
   have qpz:=qda k f;have hlen:=sw k f;have hvl:=mD (vg k f);have qp0:(str (f.drop (32*(k+1)))).size<(str (f.drop (32*k))).size:=by rw[hz,qO,List.length_drop];omega
   have hxs:0<(str (f.drop (32*k))).size:=by omega
   have Hz:=QH hz;clear hz;have qp1:=QH qpy;have qvH:=QH qpz;have qvI:=QH qp0;clear qpy qpz qp0 qke;generalize str (f.drop (32*k))=x at *;generalize pad (kO f k)=p at *;generalize (Lib.byteCells p).toArray=A at *;have hown2:=qnA hown A p;rw[hlen]at hown2;have hB2:=zD (zD hB (.cells A 145)) (.cells #[.string (str p)] 9);have qp2:=QH hown2;have hnews:=qgI wr (.cells A 145) p;have h1c:∀u∈([Value.string (str p)]:List Value),u.oneCell'=true:=by
    intro u hu;simp at hu;subst hu;rfl
   have qvJ:=QH hnews;have H1c:=QH h1c;have qvK:=hB2.size;clear hnews h1c hown2 hown hB;go_wp2_with (at_builtin;refine wpList_append_own _ rfl (.tmp 13) (.tmp 16) 57 rfl w.heap.size 9 i0 (.string ByteArray.empty) 1 16 underlying57 hi hz0 hz1 hz2 rfl (by decide) _ k _ rfl qp2.out ⟨wr.heap.size+1,0,none⟩ 1 1 [.string (str p)] rfl rfl qvJ.out H1c.out ?_ ?_ qvK ?_)
   ·unfold maxLen;omega
   ·omega
   ·intro v' w1 hown1 hgrow _;have hn1:=pM hlen hown1;have hb1:=hB2.grown hgrow qvK (fun j hj=>(qp2.out.lt j hj).1);rw[← qvH.out]at hn1;clear hown1 hgrow hB2 fR hcv;go_wp2;go_roundw;case rel=>exact⟨k+1,by rw[← qp1.out],by omega,hn1,hb1⟩
    case measure=>have:=qvI.out;rw[← qp1.out]at this;simpa using this
  ·have gZ:(f.length+31)/32=k:=by omega
   have hq:(str (f.drop (32*k))).toList.isEmpty=true:=by
    rw[gX,zn,List.drop_of_length_le (by omega)];rfl
   have Hk:=QH gZ;clear gZ;generalize str (f.drop (32*k))=x at *;go_wp2;go_ret;exact⟨_,rfl,by rw[Hk.out];exact hown,hB⟩
def qrs (b:Bool)(w:World)(e:Ending)(w':World):Prop:=e=.returned (.bool b)∧Below w.heap.size w w'
def qrt (ps qs:List (List UInt8))(w:World)(i:Value)(wr:World):Prop :=
 ∃k:Nat,k≤ps.length∧i=.int .i64 (k:Int)∧ps.take k=qs.take k∧Below w.heap.size w wr
theorem sQ (ps qs:List (List UInt8))(k:Nat)(h1:k<ps.length)(h2:k<qs.length)(h:ps.take k=qs.take k)(e:ps[k]=qs[k]):ps.take (k+1)=qs.take (k+1):=by
 rw[List.take_succ_eq_append_getElem h1,List.take_succ_eq_append_getElem h2,h,e]
theorem dn (a b:Option Addr)(c d:Nat)(ps qs:List (List UInt8))(w:World)(hp:yM w a ps)(hq:yM w b qs)(hl:ps.length≤4611686018427387904)(hm:qs.length≤4611686018427387904) :
    Calls prog 199 #[.slice a ps.length c,.slice b qs.length d] w (qrs (decide (ps=qs)) w):=by
 have HP:=QH hp;have HQ:=QH hq;clear hp hq;by_cases hlen:ps.length=qs.length
 ·go_enter func199,ntmps199;go_wp2;go_loopw [13] (fun i wr=>qrt ps qs w i wr) (fun i _=>ps.length-(intOf i).toNat);case atStart=>exact⟨0,Nat.zero_le _,rfl,rfl,Below.refl _ _⟩
  case round =>
   obtain⟨k,hk,rfl,ht,hB⟩:=hrel;have Ht:=QH ht;clear ht;by_cases hlt:k<ps.length
   ·have hlq:k<qs.length:=by omega
    obtain⟨b1,o1,rfl,hb1,hc1⟩:=HP.out k hlt;obtain⟨b2,o2,rfl,hb2,hc2⟩:=HQ.out k hlq;have qc5:wr.cell? ⟨b1,o1+k,none⟩=some (.string (str ps[k])):=by rw[hB.cell (p:=⟨b1,o1+k,none⟩) hb1];exact hc1
    have rG:wr.cell? ⟨b2,o2+k,none⟩=some (.string (str qs[k])):=by rw[hB.cell (p:=⟨b2,o2+k,none⟩) hb2];exact hc2
    have qzD:b1<wr.heap.size:=Nat.lt_of_lt_of_le hb1 hB.size;have qzE:b2<wr.heap.size:=Nat.lt_of_lt_of_le hb2 hB.size;have hi1:(k:Int)<(ps.length:Int):=by omega
    have hi2:(k:Int)<(qs.length:Int):=by omega
    have hbq:((str ps[k]).toList == (str qs[k]).toList)=decide (ps[k]=qs[k]):=by rw[qci,zn]
    have Hbq:=QH hbq;clear hc1 hc2 hbq;generalize str ps[k]=x at *;generalize str qs[k]=y at *;go_wp2;go_quiet (fail);have hbq:=Hbq.out;generalize (x.toList == y.toList)=q at *;have hB2:=below_drewN hB nq;by_cases he:ps[k]=qs[k]
    ·have hqt:q=true:=by rw[hbq];simpa using he
     have hsn:=QH (sQ ps qs k hlt hlq Ht.out he);clear hbq he;subst hqt;go_wp2;go_roundw;case rel=>exact⟨k+1,by omega,by go_num,hsn.out,hB2⟩
     case measure=>simp[intOf];omega
    ·have hqt:q=false:=by rw[hbq];simpa using he
     have hne:decide (ps=qs)=false:=by
      simp only[decide_eq_false_iff_not];rintro rfl;exact he rfl
     have Hne:=QH hne;clear hbq he hne;subst hqt;go_wp2;go_ret;exact⟨by rw[Hne.out];rfl,hB2⟩
   ·have gZ:k=ps.length:=by omega
    have heq:decide (ps=qs)=true:=by
     have:=Ht.out;rw[List.take_of_length_le (by omega),List.take_of_length_le (by omega)]at this;simpa using this
    have Heq:=QH heq;clear heq;go_wp2;go_ret;exact⟨by rw[Heq.out];rfl,hB⟩
 ·have hne:decide (ps=qs)=false:=by
     simp only[decide_eq_false_iff_not];rintro rfl;exact hlen rfl
  have cE:¬ (ps.length:Int)=(qs.length:Int):=by omega
  have Hne:=QH hne;clear hne;go_enter func199,ntmps199;go_wp2;go_ret;exact⟨by rw[Hne.out];rfl,Below.refl _ _⟩
def qkg (s:ByteArray)(w:World)(e:Ending)(w':World):Prop :=
 ∃v,e=.returned (.tuple #[v,.int .i64 0])∧zC w' w.heap.size v (qJ (bl s))∧Below w.heap.size w w'
theorem qd0(a b:List UInt8)(s:ByteArray)(w:World):yM (w.alloc (.cells #[.string (str a),.string (str b),.string s] 9)) (some ⟨w.heap.size,0,none⟩) [a,b,bl s]:=by
 have:=mE [a,b,bl s] w;simp only[yf,List.map_cons,List.map_nil,cJ]at this;exact this
theorem qgJ(s:ByteArray)(w:World)(hs:8192<s.size) :
    Calls prog 101 #[.string s] w fun e w'=>e=.returned (.tuple #[.slice none 0 0,.int .i64 3])∧Below w.heap.size w w':=by
 have hc:(8192:Int)<(s.size:Int):=by omega
 go_enter func101,ntmps101;go_wp2;go_ret2;exact⟨rfl,Below.refl _ _⟩
theorem qbk(t:List UInt8):[iB t.length,be4 (uE t),t].flatten=iC t:=by simp[iC,headB]
theorem bR (s:ByteArray)(w:World)(hs:s.size≤8192)(ht:xK w) :
    Calls prog 101 #[.string s] w (qkg s w):=by
 have HT:=QH ht;have hg:=ht.1;clear ht;have hn:=qge (bl s);have wA:=qbk (bl s);rw[zg]at wA;have hrl:=wZ (bl s);rw[zg]at hrl;have hns:(iC (bl s)).length+31=(bl s).length+37:=by rw[hrl,zg]
 have pN:vg (((iC (bl s)).length+31)/32) (iC (bl s))=qJ (bl s):=by rw[hns];rfl
 have Hfl:=QH wA;have Hrl:=QH hrl;have qvL:=QH pN;have Hn:=QH hn;clear wA hrl hns pN hn;go_enter func101,ntmps101;go_wp2_with (go_at_call 175;refine(qbi s.size _ (by omega)).mono ?_);rintro e W1 ⟨rfl,b1⟩;have h1:=QH (HT.out.below b1 hg);go_wp2_with (go_at_call 176;refine(qjS s _ (by omega) h1.out).mono ?_);rintro e W2 ⟨rfl,b2⟩;have b12:=qc b1 b2;clear b1 b2 h1;go_wp2_with (go_at_call 175;refine(sN (uE (bl s)) _ Hn.out).mono ?_);rintro e W3 ⟨rfl,b3⟩;have b13:=qc b12 b3;have hst:=qd0 (iB s.size) (be4 (uE (bl s))) s W3;have rD:([iB s.size,be4 (uE (bl s)),bl s].flatten).length≤140737488355328:=by rw[Hfl.out,Hrl.out];omega
 have qvM:=zD b13 (.cells #[.string (str (iB s.size)),.string (str (be4 (uE (bl s)))),.string s] 9);have hput:=mF _ 3 _ _ hst (by simp) rD;rw[Hfl.out]at hput;have qbl:=QH hput;clear b12 b3 b13 hst rD hput;go_wp2_with (go_at_call 178;refine qbl.out.mono ?_);rintro e W4 ⟨rfl,b4⟩;have b14:=qc qvM b4;have hcut:=iN (iC (bl s)) W4 (by rw[Hrl.out];omega);rw[qvL.out]at hcut;have q0x:=QH hcut;clear qvM b4 qbl hcut;go_wp2_with (go_at_call 177;refine q0x.out.mono ?_);rintro e W5 ⟨v,rfl,hown,b5⟩;have b15:=qc b14 b5;have hown':zC W5 w.heap.size v (qJ (bl s)):=sL hown b14.size;clear b14 b5 hown;go_wp2;go_ret2;exact⟨v,rfl,hown',b15⟩
end Go.Proofs.YtdpbdkacngaemaaGreatDoor
namespace Go.Proofs.YtdpbdkacngaemaaGreatDoor.dk
open _root_.Go.Proofs.Tryz Go Go.RowKit
section
variable {w:World} {p m:Nat} {v:Value} {d:DD} {own:Nat→Prop}
end
end Go.Proofs.YtdpbdkacngaemaaGreatDoor.dk
namespace Go.Proofs.YtdpbdkacngaemaaGreatDoor.dk
open _root_.Go.Proofs.Tryz Go Go.RowKit Go.Shelf
attribute [local go_sem] Oper.semAt_some
abbrev Wr (n:Nat):={ x:Nat × Bt × Bt × Bool // x.1<n∧x.2.1.length=32∧x.2.2.1.length=32 }
end Go.Proofs.YtdpbdkacngaemaaGreatDoor.dk
namespace Go.Proofs.YtdpbdkacngaemaaGreatDoor.dk
open _root_.Go.Proofs.Tryz Go Go.RowKit
section
variable {w:World} {p m:Nat} {v:Value} {d:DD} {own:Nat→Prop}
theorem zH.low{most:Nat}(h:zH most w own p d):∀j,own j→j<w.heap.size:=by
 obtain⟨_,m,v,h1⟩:=h;exact h1.2.2.2.2.2.2
theorem zH.below{most:Nat}{w':World}(h:zH most w own p d)(hb:Below w.heap.size w w'):zH most w' own p d :=
 h.keep hb.size (fun j hj=>hb.block j (h.low j hj))
theorem qd2{most:Nat}(h:zH most w own p d)(zW:d.on=true)(k:Int)(hh:d.has k=true)(s:ByteArray)(hs:s.size=32)(hf:d.fits [k]=true)(hop:d.oper.on=false) :
    Calls prog 194 #[.pointer (some ⟨p,0,none⟩),.int .i64 k,.string s] w (xp most own p d.oper (.int .i64 6) w):=by
 have hk0:0≤k∧k<(d.n:Int):=by simpa[DD.has]using hh
 have hn:=h.1.n1;have h2:zH most (w.alloc (.cells #[.int .i64 k] 3)) own p d:=h.below ((Below.refl _ _).alloc (Nat.le_refl _) _);have HF:=QH (vd h2 _ 1 [k] (lJ w k (by omega) (by omega)) (by simp));rw[hf]at HF;have H:=QH h;have HO:=QH (fun(W:World) (hW:zH most W own p d)=>lD hW zW);rw[hop]at HO;obtain⟨h0,m,v,h1⟩:=h;have hhas:=jF h1 k;rw[hh]at hhas;have HH:=QH hhas;obtain⟨c0,c1,c2,c3,c4,c5⟩:=jC h1.1;rw[zW]at c4;have hsz:((s.size:Int) == 32)=true:=by rw[beq_iff_eq];omega
 clear h0 h1 c0 c1 c2 c3 c5 zW hhas hh hs hf h2 hk0 hn hop;go_enter func194,ntmps194;go_wp2_with (first|(go_at_call 197;refine HH.out.mono ?_;rintro e w' ⟨rfl,rfl⟩)|(go_at_call 182;refine HF.out.mono ?_;rintro e w2 ⟨rfl,hb2⟩;have qG:=QH (((Below.refl _ w).alloc (Nat.le_refl _) (.cells #[.int .i64 k] 3)).trans (hb2.mono (by simp)));clear hb2;have HW2:=QH (HO.out w2 (H.out.below qG.out)))|(go_at_call 257;refine HW2.out.mono ?_;rintro e w3 ⟨rfl,bS,hd3,hb3,hg3⟩;have HD3:=QH hd3;have zG:=QH hb3;have tR:=QH hg3;clear hd3 hb3 hg3));go_ret;exact⟨rfl,bS,HD3.out,(qB.of_below qG.out).trans zG.out (fun _ h=>.inl h),fun j hj=>by
  rcases tR.out j hj with h|h
  ·exact .inl h
  ·exact .inr (Nat.le_trans qG.out.size h)⟩
theorem qd3{most:Nat}(h:zH most w own p d)(hm:d.more.length<most)(yT:most≤100000)(zW:d.on=true)(k:Int)(hh:d.has k=true)(s:ByteArray)(hs:s.size=32)(hf:d.fits [k]=true)(hop:d.oper.on=true) :
    Calls prog 194 #[.pointer (some ⟨p,0,none⟩),.int .i64 k,.string s] w (xp most own p { d.oper with more:=d.more++[(k.toNat,bl s)] } (.int .i64 0) w):=by
 have hk0:0≤k∧k<(d.n:Int):=by simpa[DD.has]using hh
 have hn:=h.1.n1;have h2:zH most (w.alloc (.cells #[.int .i64 k] 3)) own p d:=h.below ((Below.refl _ _).alloc (Nat.le_refl _) _);have HF:=QH (vd h2 _ 1 [k] (lJ w k (by omega) (by omega)) (by simp));rw[hf]at HF;have H:=QH h;have HO:=QH (fun(W:World) (hW:zH most W own p d)=>lD hW zW);rw[hop]at HO;obtain⟨h0,m,v,h1⟩:=h;have hhas:=jF h1 k;rw[hh]at hhas;have HH:=QH hhas;obtain⟨c0,c1,c2,c3,c4,c5⟩:=jC h1.1;rw[zW]at c4;have hsz:((s.size:Int) == 32)=true:=by rw[beq_iff_eq];omega
 have HS:=QH hs;have HK:=QH hk0;have HN:=QH hn;have HMO:=QH hm;have HMM:=QH yT;have HOP:=QH hop;obtain⟨k,rfl⟩:∃j:Nat,k=(j:Int):=⟨k.toNat,by omega⟩;clear h0 h1 c0 c1 c2 c3 c5 zW hhas hh hs hf h2 hk0 hn hop hm yT;go_enter func194,ntmps194;go_wp2_with (first|(go_at_call 197;refine HH.out.mono ?_;rintro e w' ⟨rfl,rfl⟩)|(go_at_call 182;refine HF.out.mono ?_;rintro e w2 ⟨rfl,hb2⟩;have qG:=QH (((Below.refl _ w).alloc (Nat.le_refl _) (.cells #[.int .i64 (k:Int)] 3)).trans (hb2.mono (by simp)));clear hb2;have HW2:=QH (HO.out w2 (H.out.below qG.out)))|(go_at_call 257;refine HW2.out.mono ?_));rintro e w3 ⟨rfl,bS,hd3,hb3,hg3⟩;have HD3:=QH hd3;have zG:=QH hb3;have tR:=QH hg3;obtain⟨h30,m3,v3,h31⟩:=hd3;have H30:=QH h30;have H31:=QH h31;obtain⟨A,c,hA⟩:=yq h31.2.2.1;obtain⟨g0,g1,g2,g3,g4,g5⟩:=jC h31.1;have hp3:=h31.1.lt;have hm3:=h31.2.1.lt;have HLB:Hid (((look d.oper.now (k:Int)).getD zz).length=32):=by
  unfold Hid;cases hx:look d.oper.now (k:Int)with
  | none=>exact zh
  | some u=>exact h30.pw hx
 clear hb3 hg3 c4 h30 h31 HF HO HH HW2;go_wp2_with (first|(refine qx rfl (rZ _ k rfl rfl) ?_)|(refine qx rfl (rY rfl) ?_)|(refine wpList_skip rfl (xG w3 148 _ _ (.tmp 7) (.tmp 38) rfl rfl rfl (by rw[qjy,List.size_toArray,yv _ zh zh]) (by simp[yv,zh]) (qqZ _)) ?_)|(refine qx rfl (qaG w3 (.tmp 40) (.tmp 41) k s rfl rfl rfl HS.out) ?_)|(at_lookup;refine qx rfl (vL _ _ rfl rfl (H31.out.2.1.of_block (Below.heap_alloc w3 _ _ hm3)) (k:Int) rfl (by omega) (by have:=HK.out;have:=HN.out;omega)) ?_)|(refine wpList_skip rfl (bz w3 (.tmp 52) (.tmp 50) k (bl s) _ false rfl rfl rfl (by rw[zg,HS.out]) HLB.out) ?_)|(refine wpList_skip rfl (au w3 (.tmp 53) (.tmp 51) k (bl s) _ _ rfl rfl rfl (by rw[zg,HS.out]) HLB.out) ?_));have HX:Hid (kL (w3.alloc (.cells (qo (k,bl s,(look d.oper.now (k:Int)).getD zz,(look d.oper.now (k:Int)).isSome)).toArray 148)) bS p m3 v3 d.oper) :=
  H31.out.keep (by simp) (fun j hj=>Below.heap_alloc _ _ _ (HD3.out.low j hj))
 have HXB:Hid (qh (w3.alloc (.cells (qo (k,bl s,(look d.oper.now (k:Int)).getD zz,(look d.oper.now (k:Int)).isSome)).toArray 148)) w3.heap.size 148 (qo (k,bl s,(look d.oper.now (k:Int)).getD zz,(look d.oper.now (k:Int)).isSome)).toArray):=qh.new _ _ _;have HXW:Hid (Below w3.heap.size w3 (w3.alloc (.cells (qo (k,bl s,(look d.oper.now (k:Int)).getD zz,(look d.oper.now (k:Int)).isSome)).toArray 148))):=(Below.refl _ _).alloc (Nat.le_refl _) _;have HXS:Hid ((w3.alloc (.cells (qo (k,bl s,(look d.oper.now (k:Int)).getD zz,(look d.oper.now (k:Int)).isSome)).toArray 148)).heap.size=w3.heap.size+1):=by unfold Hid;simp
 have HLX:Hid ((qo (k,bl s,(look d.oper.now (k:Int)).getD zz,(look d.oper.now (k:Int)).isSome)).length=66):=yv _ (by rw[zg,HS.out]) HLB.out;generalize hX:w3.alloc (.cells (qo (k,bl s,(look d.oper.now (k:Int)).getD zz,(look d.oper.now (k:Int)).isSome)).toArray 148)=X at *;clear hX g0 g1 g2 g3 g4 g5;subst hA;obtain⟨g0,g1,g2,g3,g4,g5⟩:=jC HX.out.1;have hf3:=HX.out.1.frozen 3;have hpX:=HX.out.1.lt;simp only[Act.put];refine wp_region_any (by kernel_rfl) ?_
 change wpAny _ _ _ _ _ _ _ (World.drew _)
 refine wpAny_take (i:=0) (v:=.pointer (some ⟨p,0,none⟩)) rfl (by kernel_rfl) (by kernel_rfl) (by kernel_rfl) (fun _ _ _ h=>h) (Or.inl ⟨by rfl,fun w=>by go_simp⟩) ?_;go_simp;refine wpAny_take (i:=1) (v:=.pointer (some ⟨p,0,none⟩)) rfl (by kernel_rfl) (by kernel_rfl) (by kernel_rfl) (fun _ _ _ h=>h) (Or.inl ⟨by rfl,fun w=>by go_simp⟩) ?_;go_simp;refine wpAny_take (i:=2) (v:=.pointer (some ⟨p,0,none⟩)) rfl (by kernel_rfl) (by kernel_rfl) (by kernel_rfl) (fun _ _ _ h=>h) (Or.inl ⟨by rfl,fun w=>by go_simp⟩) ?_;go_simp;refine wpAny_take (i:=3) (v:=.pointer (some ⟨p,3,none⟩)) rfl (by kernel_rfl) (by kernel_rfl) (by kernel_rfl) (fun _ _ _ h=>h) (Or.inl ⟨by rfl,fun w=>by go_simp⟩) ?_;go_simp;refine od (i:=4) (j:=5) (l:=6) (di:=58) (dj:=59) (dl:=60) (vi:=.slice A d.oper.more.length c) (vj:=.agg (qo (k,bl s,(look d.oper.now (k:Int)).getD zz,(look d.oper.now (k:Int)).isSome)).toArray) (vl:=.slice (some ⟨X.drew.heap.size,0,none⟩) 1 1) (w2:=X.drew.alloc (.cells (qo (k,bl s,(look d.oper.now (k:Int)).getD zz,(look d.oper.now (k:Int)).isSome)).toArray 148))
  (by kernel_rfl) (by kernel_rfl) (by kernel_rfl) (by kernel_rfl) (by kernel_rfl) (by decide) (by decide) rfl rfl rfl rfl rfl rfl rfl rfl rfl (by decide) (by decide) (wW _ rfl p 3 rfl _ _ _ g3) (wW _ rfl p 3 rfl _ _ _ g3) (wW _ rfl p 3 rfl _ _ _ ((World.cell?_of_block (a:=⟨p,3,none⟩) (Below.heap_alloc _ _ _ hpX)).trans g3))
  (fJ _ rfl w3.heap.size rfl _ HXB.out (by rw[List.size_toArray,HLX.out])) (fJ _ rfl w3.heap.size rfl _ HXB.out (by rw[List.size_toArray,HLX.out])) (lH _ _ rfl rfl (by rw[List.size_toArray,HLX.out])) (lH _ _ rfl rfl (by rw[List.size_toArray,HLX.out])) ?_
 have qki:=HX.out.2.2.1;have qvP:=HX.out.2.2.2.2.2.2;have qp3:qh (X.drew.alloc (.cells (qo (k,bl s,(look d.oper.now (k:Int)).getD zz,(look d.oper.now (k:Int)).isSome)).toArray 148)) X.drew.heap.size 148 (qo (k,bl s,(look d.oper.now (k:Int)).getD zz,(look d.oper.now (k:Int)).isSome)).toArray:=qh.new _ _ _;have qkj:(X.drew.alloc (.cells (qo (k,bl s,(look d.oper.now (k:Int)).getD zz,(look d.oper.now (k:Int)).isSome)).toArray 148)).ownsRow 0 148 66 (.slice A d.oper.more.length c) d.oper.more.length (uW (ee d.oper.base d.oper.more)) :=
  xT (w:=X) qki (fun j hj=>Below.heap_alloc X.drew _ j (et qki j hj))
 have hml:d.oper.more.length<100000:=by rw[(xH d).2.1];have:=HMO.out;have:=HMM.out;omega
 obtain⟨i0,hi,hz0,hz1,hz2⟩:=info_parts qcT;refine qY (i:=7) (by kernel_rfl) rfl rfl ?_;refine sf (.tmp 58) (.tmp 60) 86 rfl 0 148 i0 _ 66 80 underlying86 hi hz0 hz1 hz2 (by simp[Value.cells,yv,zh]) (by decide) _ _ _ rfl qkj ⟨X.drew.heap.size,0,none⟩ 1 1 (qo (k,bl s,(look d.oper.now (k:Int)).getD zz,(look d.oper.now (k:Int)).isSome)) rfl (by rw[HLX.out]) ?_ (wV _) (by unfold maxLen;omega) (by omega) (Nat.zero_le _) ?_
 ·intro j u hu;rw[addr_add,Nat.zero_add,qp3.cell j];simpa using hu
 intro v7 w7 qeV qry qkk;obtain⟨A7,c7,rfl⟩:=yq qeV;have hne:=HX.out.ne;have qvQ:(X.drew.alloc (.cells (qo (k,bl s,(look d.oper.now (k:Int)).getD zz,(look d.oper.now (k:Int)).isSome)).toArray 148)).heap.size=X.heap.size+1:=by simp
 have sR:∀j,j<X.heap.size→(Value.slice A d.oper.more.length c).ownBlock≠some j→w7.heap[j]?=X.heap[j]? :=fun j hj hn =>
  (qry.block j (by rw[qvQ];omega) (fun e=>hn e.symm)).trans (Below.heap_alloc X.drew _ j hj)
 have q00:=HX.out.2.1.lt;have hP7:w7.heap[p]?=X.heap[p]? :=sR p hpX (fun e=>(hne.2 _ e).1 rfl);have hM7:w7.heap[m3]?=X.heap[m3]? :=sR m3 q00 (fun e=>(hne.2 _ e).2 rfl);have hvb:∀j,(Value.slice A d.oper.more.length c).ownBlock=some j→j<w3.heap.size:=fun j hj=>HD3.out.low j (HX.out.2.2.2.2.2.1 j hj);have hS7:w7.heap[w3.heap.size]?=X.heap[w3.heap.size]? :=sR _ (by rw[HXS.out];omega) (fun e=>by have:=hvb _ e;omega);have qp5:Hid (qB bS w3 w7):=by
  refine((qB.of_below (S:=bS) HXW.out).drew.alloc _).grown qry (fun j hj=>.inl (HX.out.2.2.2.2.2.1 j hj))
 have qkl:∀j,(Value.slice A7 (d.oper.more.length+1) c7).ownBlock=some j→bS j∨w3.heap.size≤j:=by
  intro j hj;rcases qkk with e|e
  ·exact .inl (HX.out.2.2.2.2.2.1 j (e.symm.trans hj))
  ·rw[hj]at e;injection e with e
   right
   have:=HXS.out;have e2:X.drew.alloc (.cells (qo (k,bl s,(look d.oper.now (k:Int)).getD zz,(look d.oper.now (k:Int)).isSome)).toArray 148)=X.drew.alloc (.cells (qo (k,bl s,(look d.oper.now (k:Int)).getD zz,(look d.oper.now (k:Int)).isSome)).toArray 148):=rfl;omega
 have qvR:∀j,(Value.slice A7 (d.oper.more.length+1) c7).ownBlock=some j→j<w7.heap.size:=et qeV;have qp6:∀j,(Value.slice A7 (d.oper.more.length+1) c7).ownBlock=some j→j≠p∧j≠m3:=by
  intro j hj;rcases qkk with e|e
  ·exact hne.2 j (e.symm.trans hj)
  ·rw[hj]at e;injection e with e
   exact⟨by omega,by omega⟩
 have HP7:Hid (qh w7 p 88 #[.int .i64 (d.oper.n:Int),.int .i64 d.oper.room,.map (some m3),.slice A d.oper.more.length c,.bool d.oper.on,.int .i64 d.oper.qz]):=HX.out.1.of_block hP7;have HM7:Hid (xc w7 m3 d.oper.now):=HX.out.2.1.of_block hM7;have HS7:Hid (qh w7 w3.heap.size 148 (qo (k,bl s,(look d.oper.now (k:Int)).getD zz,(look d.oper.now (k:Int)).isSome)).toArray):=HXB.out.of_block hS7;have HO7:=QH qeV;have yc:=QH qkl;have oa:=QH qvR;have HPN:=QH qp6;have HNE:=QH hne;have po:Hid (w3.heap.size≤w7.heap.size):=qp5.out.size;have k3:=HP7.out.cell 3;have fr3:=HP7.out.frozen 3;have hp7:=HP7.out.lt;clear hS7 hM7 hP7 sR qry qkk qeV qki qkj qp3 qkl qvR qp6 hne qvQ qvP g0 g1 g2 g3 g4 g5 hf3 hi hz0 hz1 hz2 hvb hml;go_simp;refine qY (i:=8) (by kernel_rfl) rfl rfl ?_;go_simp;refine qY (i:=9) (by kernel_rfl) rfl rfl ?_;go_simp;refine qY (i:=10) (by kernel_rfl) rfl rfl ?_;go_simp;refine⟨by kernel_rfl,?_⟩;go_wp2_with fail;have HP8:Hid (qh (w7.setCell ⟨p,3,none⟩ (.slice A7 (d.oper.more.length+1) c7)) p 88 #[.int .i64 (d.oper.n:Int),.int .i64 d.oper.room,.map (some m3),.slice A7 (d.oper.more.length+1) c7,.bool d.oper.on,.int .i64 d.oper.qz]):=HP7.out.qu 3 _;have HM8:Hid (xc (w7.setCell ⟨p,3,none⟩ (.slice A7 (d.oper.more.length+1) c7)) m3 d.oper.now):=HM7.out.of_block (xr _ _ _ _ _ (fun e=>HNE.out.1 e.symm));have HS8:Hid (qh (w7.setCell ⟨p,3,none⟩ (.slice A7 (d.oper.more.length+1) c7)) w3.heap.size 148 (qo (k,bl s,(look d.oper.now (k:Int)).getD zz,(look d.oper.now (k:Int)).isSome)).toArray):=HS7.out.of_block (xr _ _ _ _ _ (by omega));have HO8:Hid ((w7.setCell ⟨p,3,none⟩ (.slice A7 (d.oper.more.length+1) c7)).ownsRow 0 148 66 (.slice A7 (d.oper.more.length+1) c7) (d.oper.more.length+1) (uW (ee d.oper.base d.oper.more)++qo (k,bl s,(look d.oper.now (k:Int)).getD zz,(look d.oper.now (k:Int)).isSome))) :=
  xT HO7.out (fun j hj=>xr _ _ _ _ _ (HPN.out j hj).1)
 have qp7:Hid (qB bS w3 (w7.setCell ⟨p,3,none⟩ (.slice A7 (d.oper.more.length+1) c7))):=qp5.out.setCell _ _ (.inl H31.out.2.2.2.1);have qvS:Hid ((w7.setCell ⟨p,3,none⟩ (.slice A7 (d.oper.more.length+1) c7)).heap.size=w7.heap.size):=by unfold Hid;simp[size_set]
 generalize hw8:w7.setCell ⟨p,3,none⟩ (.slice A7 (d.oper.more.length+1) c7)=w8 at *;clear hw8 k3 fr3;have q2:=HP8.out.cell 2;have hp8:=HP8.out.lt;have qvT:=rowOf (k,bl s,(look d.oper.now (k:Int)).getD zz,(look d.oper.now (k:Int)).isSome) (by rw[zg,HS.out]) HLB.out;have q03:=QH qvT;have hlb:(Lib.byteCells (bl s)).length=32:=by rw[Lib.byteCells_length,zg,HS.out]
 have HLb:=QH hlb;clear qvT hlb;refine aY 7 (by kernel_rfl) (by kernel_rfl) ?_;simp only[List.take_succ_cons,List.take_zero,List.drop_succ_cons,List.drop_zero]
 iterate 6 still_step
 refine qam rfl (wU _ _ rfl w3.heap.size 1 rfl _ _ (Lib.byteCells (bl s)) _ _ HS8.out underlying146 rfl (by rw[lC,HLb.out]) q03.out.data) ?_;refine wpStill_nil ?_;have hnl:d.oper.now.length=d.n:=by rw[d.oper.yY,qj1]
 have hkn:k<d.oper.now.length:=by rw[hnl];have:=HK.out;omega
 have qvU:d.oper.now.length≤1024:=by rw[hnl];exact HN.out
 have HNL:=QH hnl;have HKN:=QH hkn;have q04:=QH qvU;clear hnl hkn qvU;refine iA (w:=w8.drew) rfl _ _ _ rfl rfl HM8.out k rfl (bl s) rfl HKN.out q04.out ?_;intro w9 hm9 ht9;have HM9:=QH hm9;have HT9:=QH (kN ht9);clear hm9 ht9;go_wp2_with fail;go_ret;have hb9:∀j,j<w8.heap.size→j≠m3→w9.heap[j]?=w8.heap[j]? :=fun j hj hn=>HT9.out.block j hj hn;have zaf:m3<w8.heap.size:=HM8.out.lt;refine⟨rfl,fun j=>bS j∨(Value.slice A7 (d.oper.more.length+1) c7).ownBlock=some j,⟨?_,m3,.slice A7 (d.oper.more.length+1) c7,?_⟩,?_,?_⟩
 ·refine { H30.out with qaA:=?_,at1:=?_ }
  ·simp;have:=HMO.out;omega
  ·intro x hx;simp only[List.mem_append,List.mem_singleton]at hx;rcases hx with hx|rfl
   ·exact H30.out.at1 x (by rw[(xH d).2.1];exact hx)
   ·refine⟨?_,by show(bl s).length=32;rw[zg,HS.out]⟩;show k<d.oper.n;rw[qj1];have:=HK.out;omega
 ·have hd:({ d.oper with more:=d.more++[((k:Int).toNat,bl s)] }:DD).now=put d.oper.now k (bl s):=by
     show qQ d.oper.base (d.more++[((k:Int).toNat,bl s)])=_;rw[ed,← (xH d).2.1];rfl
  refine⟨?_,by rw[hd];exact HM9.out,?_,.inl HX.out.2.2.2.1,.inl HX.out.2.2.2.2.1,fun j hj=>.inr hj,?_⟩
  ·exact HP8.out.of_block (hb9 p hp8 HNE.out.1)
  ·have e1:(d.more++[((k:Int).toNat,bl s)]).length=d.oper.more.length+1:=by rw[(xH d).2.1];simp
   have e2:uW (ee d.oper.base (d.more++[((k:Int).toNat,bl s)]))=uW (ee d.oper.base d.oper.more)++qo (k,bl s,(look d.oper.now (k:Int)).getD zz,(look d.oper.now (k:Int)).isSome):=by
    rw[Int.toNat_natCast,px,qcV,(xH d).2.1,wX];rw[show qQ d.oper.base d.more=d.now from by rw[(xH d).1];rfl]
   show w9.ownsRow 0 _ 66 _ (d.more++[((k:Int).toNat,bl s)]).length (uW (ee d.oper.base (d.more++[((k:Int).toNat,bl s)])));rw[e1,e2];exact xT HO8.out (fun j hj=>hb9 j (by rw[qvS.out];exact oa.out j hj) (HPN.out j hj).2)
  ·intro j hj;have h9:=HT9.out.size;have h8:=qp7.out.size;have e9:w8.drew.heap.size=w8.heap.size:=rfl;rcases hj with hj|hj
   ·have:=HD3.out.low j hj;omega
   ·have:=oa.out j hj;have:=qvS.out;omega
 ·have t1:qB own w w2:=qB.of_below qG.out;have t2:qB own w w3:=t1.trans zG.out (fun _ h=>.inl h);refine(t2.trans qp7.out ?_).drew.trans HT9.out ?_
  ·intro j hj;rcases tR.out j hj with h|h
   ·exact .inl h
   ·exact .inr (Nat.le_trans qG.out.size h)
  ·intro j hj;subst hj;rcases tR.out _ HX.out.2.2.2.2.1 with h|h
   ·exact .inl h
   ·exact .inr (Nat.le_trans qG.out.size h)
 ·intro j hj;have hj2:bS j∨w3.heap.size≤j:=by
   rcases hj with hj|hj
   ·exact .inl hj
   ·exact yc.out j hj
  have s2:=qG.out.size;have s3:=zG.out.size;rcases hj2 with hj2|hj2
  ·rcases tR.out j hj2 with h|h
   ·exact .inl h
   ·exact .inr (by omega)
  ·exact .inr (by omega)
end
end Go.Proofs.YtdpbdkacngaemaaGreatDoor.dk
namespace Go.Proofs.YtdpbdkacngaemaaGreatDoor.dk
open _root_.Go.Proofs.Tryz Go Go.RowKit
section
variable {w:World} {p m:Nat} {v:Value} {d:DD} {own:Nat→Prop}
theorem qgL{most:Nat}(h:zH most w own p d)(hm:d.more.length<most)(yT:most≤100000)(k:Int)(s:ByteArray) :
    Calls prog 194 #[.pointer (some ⟨p,0,none⟩),.int .i64 k,.string s] w (xp most own p (d.write k (bl s)).2 (.int .i64 (d.write k (bl s)).1) w):=by
 unfold DD.write;by_cases h1:d.on=false
 ·rw[if_pos h1];exact qga h h1 k s
 ·rw[if_neg h1];have h1':d.on=true:=by simpa using h1
  by_cases h2:d.has k=false
  ·rw[if_pos (.inl h2)];exact qgb h h1' k h2 s
  ·have h2':d.has k=true:=by simpa using h2
   by_cases h3:s.size=32
   ·rw[if_neg (by rw[zg];rintro(h|h);exact h2 h;exact h h3)];have hf:=qj2 d k h2';by_cases h4:(look d.now k).isSome=false∧d.room≤(d.used:Int)
    ·rw[if_pos h4];refine qcY h h1' k h2' s h3 ?_;rw[hf,h4.1,Bool.false_or];simp only[decide_eq_false_iff_not];omega
    ·rw[if_neg h4];have hf':d.fits [k]=true:=by
      rw[hf];by_cases h5:(look d.now k).isSome=true
      ·rw[h5];rfl
      ·have h5':(look d.now k).isSome=false:=by simpa using h5
       rw[h5',Bool.false_or];simp only[decide_eq_true_eq];have:¬ d.room≤(d.used:Int):=fun e=>h4 ⟨h5',e⟩;omega
     by_cases h5:d.oper.on=false
     ·rw[if_pos h5];exact qd2 h h1' k h2' s h3 hf' h5
     ·rw[if_neg h5];exact qd3 h hm yT h1' k h2' s h3 hf' (by simpa using h5)
   ·rw[if_pos (.inr (by rw[zg];exact h3))];exact qgc h h1' k h2' s h3
theorem qgM{most:Nat}(h:zH most w own p d) :
    Calls prog 195 #[.pointer (some ⟨p,0,none⟩)] w (xp most own p d.flush.2 (.int .i64 d.flush.1) w):=by
 unfold DD.flush;by_cases zW:d.on=false
 ·rw[if_pos zW];have H:=QH h;obtain⟨h0,m,v,h1⟩:=h;obtain⟨c0,c1,c2,c3,c4,c5⟩:=jC h1.1;rw[zW]at c4;clear h0 h1 c0 c1 c2 c3 c5 zW;go_enter func195,ntmps195;go_wp2_with fail;go_ret;exact⟨rfl,own,H.out,qB.refl _ _,um.refl _ _⟩
 ·rw[if_neg zW];have qrz:d.on=true:=by simpa using zW
  have HO:=QH (lD h qrz);have H:=QH h;have hp:=h.2.choose_spec.choose_spec.1.lt;obtain⟨h0,m,v,h1⟩:=h;obtain⟨c0,c1,c2,c3,c4,c5⟩:=jC h1.1;rw[qrz]at c4;clear h0 h1 c0 c1 c2 c3 c5 zW qrz;by_cases hop:d.oper.on=false
  ·rw[if_pos hop];rw[hop]at HO;clear hop;go_enter func195,ntmps195;go_wp2_with (go_at_call 257;refine HO.out.mono ?_;rintro e w3 ⟨rfl,bS,hd3,hb3,hg3⟩;have HD3:=QH hd3;have zG:=QH hb3;have tR:=QH hg3;clear hd3 hb3 hg3);go_ret;exact⟨rfl,bS,HD3.out,zG.out,tR.out⟩
  ·rw[if_neg hop];rw[show d.oper.on=true by simpa using hop]at HO;clear hop;go_enter func195,ntmps195;go_wp2_with (go_at_call 257;refine HO.out.mono ?_);rintro e w3 ⟨rfl,bS,hd3,hb3,hg3⟩;have HD3:=QH hd3;have zG:=QH hb3;have tR:=QH hg3;obtain⟨h30,m3,v3,h31⟩:=hd3;have H30:=QH h30;have H31:=QH h31;obtain⟨A,c,rfl⟩:=yq h31.2.2.1;obtain⟨g0,g1,g2,g3,g4,g5⟩:=jC h31.1;have f3:=h31.1.frozen 3;have hp3:=h31.1.lt;clear hb3 hg3 c4 h30 h31 HO;go_wp2_with fail;go_ret;have hne:=H31.out.ne;refine⟨rfl,bS,⟨?_,m3,.slice none 0 0,?_⟩,zG.out.trans (S':=bS) ((qB.refl _ _).setCell _ _ (.inl H31.out.2.2.2.1)) tR.out,tR.out⟩
   ·have hl:d.now.length=d.oper.n:=by rw[← wX];exact d.oper.yY
    refine { H30.out with n0:=?_,n1:=?_,qaA:=Nat.zero_le _,at1:=fun _ h=>by simp at h,qpi:=?_ }
    ·show 1≤d.now.length;rw[hl];exact H30.out.n0
    ·show d.now.length≤1024;rw[hl];exact H30.out.n1
    ·show ∀v,some v∈d.now→v.length=32;rw[← wX];exact H30.out.qvk
   ·obtain⟨b1,b2,b3,b4,b5,b6,b7⟩:=H31.out;refine⟨?_,?_,⟨rfl,.inl ⟨rfl,rfl⟩⟩,b4,b5,fun k hk=>by simp[Value.ownBlock]at hk,fun k hk=>by rw[size_set];exact b7 k hk⟩
    ·have hl:(DD.n { d.oper with base:=d.now,more:=[] })=d.oper.n:=by
        show d.now.length=d.oper.n;rw[← wX];exact d.oper.yY
     rw[hl];exact b1.qu 3 _
    ·have hn:(DD.now { d.oper with base:=d.now,more:=[] })=d.oper.now:=by
        show d.now=d.oper.now;rw[wX]
     rw[hn];exact b2.of_block (xr _ _ _ _ _ (fun e=>hne.1 e.symm))
end
end Go.Proofs.YtdpbdkacngaemaaGreatDoor.dk
namespace Go.Proofs.YtdpbdkacngaemaaGreatDoor.dk
open _root_.Go.Proofs.Tryz Go Go.RowKit Go.Shelf
attribute [local go_sem] Oper.semAt_some
section
variable {w:World} {p m:Nat} {v:Value} {d:DD} {own:Nat→Prop}
end
end Go.Proofs.YtdpbdkacngaemaaGreatDoor.dk
namespace Go.Proofs.YtdpbdkacngaemaaGreatDoor.dk
open _root_.Go.Proofs.Tryz Go Go.RowKit
theorem fu (z:Nat):madeCells #[Value.int .u8 0] z=(Lib.byteCells (List.replicate z 0)).toArray:=by
 apply Array.ext';apply List.ext_getElem?;intro j;by_cases hj:j<z <;> simp[madeCells,Lib.byteCells,hj,Nat.mod_one]
def In (most:Nat)(w:World)(B p:Nat)(d:DD):Prop:=∃own,zH most w own p d∧∀k,own k→B≤k
def qnB (most B p:Nat)(d:DD)(r:Value)(w:World)(e:Ending)(w':World):Prop:=e=.returned r∧In most w' B p d∧Below w.heap.size w w'
theorem In.below{most:Nat}{w w':World}{B p:Nat}{d:DD}(h:In most w B p d)(hb:Below w.heap.size w w'):In most w' B p d:=by
 obtain⟨own,h1,h2⟩:=h;exact⟨own,h1.below hb,h2⟩
theorem In.ok{most:Nat}{w:World}{B p:Nat}{d:DD}(h:In most w B p d):d.ok most:=by
 obtain⟨own,h1,h2⟩:=h;exact h1.1
theorem In.mono{most qp8:Nat}{w:World}{B p:Nat}{d:DD}(h:In most w B p d)(hm:most≤qp8):In qp8 w B p d:=by
 obtain⟨own,⟨h1,h3⟩,h2⟩:=h;exact⟨own,⟨h1.mono hm,h3⟩,h2⟩
theorem In.lt{most:Nat}{w:World}{B p:Nat}{d:DD}(h:In most w B p d):B≤p∧p<w.heap.size:=by
 obtain⟨own,⟨_,m,v,h1⟩,h2⟩:=h;exact⟨h2 p h1.2.2.2.1,h1.1.lt⟩
section
variable {most:Nat} {w:World} {B p:Nat} {d:DD}
theorem qeW(h:In most w B p d)(k:Int)(v:Bt)(s:ByteArray)(hs:str v=s)(r:Int)(h1:d.read k=(v,r)) :
    Calls prog 122 #[.pointer (some ⟨p,0,none⟩),.int .i64 k] w (qnB most B p d (.tuple #[.string s,.int .i64 r]) w):=by
 have hI:=h;obtain⟨own,hd,ho⟩:=h;subst hs;have key:Calls prog 122 #[.pointer (some ⟨p,0,none⟩),.int .i64 k] w (uY (d.read k) w):=by
  obtain⟨h0,m,v,h1⟩:=hd;unfold DD.read;by_cases zW:d.on=false
  ·rw[if_pos zW];exact qaD h1 zW k
  ·rw[if_neg zW];by_cases hh:d.has k=false
   ·rw[if_pos hh];exact qaE h1 (by simpa using zW) k hh
   ·rw[if_neg hh];exact qeE h0 h1 (by simpa using zW) k (by simpa using hh)
 rw[h1]at key;exact key.mono fun e w' h=>⟨h.1,hI.below h.2,h.2⟩
end
end Go.Proofs.YtdpbdkacngaemaaGreatDoor.dk
namespace Go.Proofs.YtdpbdkacngaemaaGreatDoor.dk
open _root_.Go.Proofs.Tryz Go Go.RowKit
theorem In.base{most:Nat}{w:World}{B B' p:Nat}{d:DD}(h:In most w B p d)(hB:B'≤B):In most w B' p d:=by
 obtain⟨own,h1,h2⟩:=h;exact⟨own,h1,fun k hk=>Nat.le_trans hB (h2 k hk)⟩
def InG (most:Nat)(w:World)(G:Nat→Prop)(p:Nat)(d:DD):Prop:=∃own,zH most w own p d∧∀k,own k→G k
def mH (most:Nat)(G:Nat→Prop)(p:Nat)(d:DD)(r:Value)(w:World)(e:Ending)(w':World):Prop:=e=.returned r∧InG most w' G p d∧qB G w w'
theorem InG.below{most:Nat}{w w':World}{G:Nat→Prop}{p:Nat}{d:DD}(h:InG most w G p d)(hb:Below w.heap.size w w'):InG most w' G p d:=by
 obtain⟨own,h1,h2⟩:=h;exact⟨own,h1.below hb,h2⟩
theorem InG.ok{most:Nat}{w:World}{G:Nat→Prop}{p:Nat}{d:DD}(h:InG most w G p d):d.ok most:=by
 obtain⟨own,h1,h2⟩:=h;exact h1.1
theorem pO {most:Nat}{w:World}{G:Nat→Prop}{p:Nat}{d:DD}{own:Nat→Prop}{r:Value}(hG:∀k,w.heap.size≤k→G k)(ho:∀k,own k→G k){e:Ending}{w':World}(h:xp most own p d r w e w'):mH most G p d r w e w':=by
 obtain⟨rfl,dK,h1,h2,h3⟩:=h;refine⟨rfl,⟨dK,h1,fun k hk=>?_⟩,h2.mono ho⟩;rcases h3 k hk with h|h
 ·exact ho k h
 ·exact hG k h
section
variable {most:Nat} {w:World} {p:Nat} {G:Nat→Prop} {d:DD}
theorem qnC(h:InG most w G p d)(hG:∀k,w.heap.size≤k→G k)(hm:d.more.length<most)(yT:most≤100000)(k:Int)(s:ByteArray)(v:Bt)(hs:bl s=v)(r:Int)(d':DD)(h1:(d.write k v).1=r)(h2:(d.write k v).2=d') :
    Calls prog 194 #[.pointer (some ⟨p,0,none⟩),.int .i64 k,.string s] w (mH most G p d' (.int .i64 r) w):=by
 obtain⟨own,hd,ho⟩:=h;subst hs h1 h2;exact(qgL hd hm yT k s).mono fun _ _ h=>pO hG ho h
theorem qnD(h:InG most w G p d)(hG:∀k,w.heap.size≤k→G k)(r:Int)(d':DD)(h1:d.flush.1=r)(h2:d.flush.2=d') :
    Calls prog 195 #[.pointer (some ⟨p,0,none⟩)] w (mH most G p d' (.int .i64 r) w):=by
 obtain⟨own,hd,ho⟩:=h;subst h1 h2;exact(qgM hd).mono fun _ _ h=>pO hG ho h
end
end Go.Proofs.YtdpbdkacngaemaaGreatDoor.dk
namespace Go.Proofs.YtdpbdkacngaemaaGreatDoor.wi
open _root_.Go.Proofs.Tryz Go.RowKit
def qr0 (b:Nat)(l:List UInt8)(x:Bool)(w:World)(e:Ending)(w':World):Prop :=
 w.grownBy w' (some b) ∧
  ((∃t r,yJ l=some (t,r)∧e=.returned (.tuple #[.string (str t),.bool true])∧zj b r x w') ∨
   (yJ l=none∧e=.returned (.tuple #[.string (str []),.bool false])∧∃m,zj b m x w'))
theorem qkm(b:Nat)(l:List UInt8)(x:Bool)(w:World)(h:zj b l x w) :
    Calls prog 283 #[.func (.func 281) #[.pointer (some ⟨b,0,none⟩)] #[]] w (qr0 b l x w):=by
 go_enter func283,ntmps283;go_wp2_with (go_at_call 254;refine(aX b l x _ h).mono ?_);rintro e w1 ⟨hg,⟨n,r,hn,rfl,hr⟩|⟨hn,rfl,m,hm⟩⟩
 ·have q05:=(wI l n r hn).2;have Hn:=QH hn;have Hg:=QH hg;obtain⟨g,o,cap,hR⟩:=hr;by_cases hlt:r.length<n
  ·have hT:yJ l=none:=by unfold yJ;rw[Hn.out];simp[hlt]
   have HT:=QH hT;clear hT hg hn;go_wp2_with (go_at_call 281;refine(rE b g o cap r x (n:Int) _ hR (by omega)).mono ?_;rintro e w' ⟨rfl,rfl⟩);go_ret2;exact⟨Hg.out,.inr ⟨HT.out,rfl,r,g,o,cap,hR⟩⟩
  ·have hT:yJ l=some (r.take n,r.drop n):=by unfold yJ;rw[Hn.out];simp[hlt]
   have HT:=QH hT;have fy:(r.take n).length=n:=by simp;omega
   have Hln:=QH fy;clear hT hg hn fy;go_wp2_with (go_at_call 281;refine(kD b g o cap r x (n:Int) _ hR (by omega) (by omega)).mono ?_);rintro e w2 ⟨rfl,h1,h2,h3⟩;rw[Int.toNat_natCast]at h1 h3;have hcv:=run_convert_bytes_back (P:=prog) w2 64 9 5 ⟨g,o,none⟩ n (r.take n) underlying64 underlying5 underlying9 (by
    intro j hj;rw[addr_add];exact h3.cell j hj)
   rw[Hln.out]at hcv;have qui:(convert 64 9 (.slice (some ⟨g,o,none⟩) n n)).run prog w2=.ok (.string (str (r.take n))) w2:=hcv;have H1:=QH h1;have H2:=QH h2;clear h1 h2 h3 hcv;go_wp2;go_ret2;exact⟨zN Hg.out H2.out,.inl ⟨_,_,HT.out,rfl,_,_,_,H1.out⟩⟩
 ·have hT:yJ l=none:=by unfold yJ;rw[hn]
  have HT:=QH hT;have Hg:=QH hg;clear hT hg hn;go_wp2;go_ret2;exact⟨Hg.out,.inr ⟨HT.out,rfl,m,hm⟩⟩
def bT (b:Nat)(l:List UInt8)(w:World)(e:Ending)(w':World):Prop :=
 w.grownBy w' (some b) ∧
  ((∃t r,yJ l=some (t,r)∧e=.returned (.string (str t))∧zj b r false w') ∨
   (yJ l=none∧e=.returned (.string (str []))∧∃m,zj b m true w'))
theorem sS (b:Nat)(l:List UInt8)(w:World)(h:zj b l false w) :
    Calls prog 282 #[.pointer (some ⟨b,0,none⟩),.func (.func 283) #[] #[]] w (bT b l w):=by
 go_enter func282,ntmps282;go_wp2_with (go_at_call 280;refine(qcr b l _ h).mono ?_;rintro e w' ⟨rfl,rfl⟩);go_wp2_with (go_at_call 283;refine(qkm b l false _ h).mono ?_);rintro e w1 ⟨hg,⟨n,r,hn,rfl,hr⟩|⟨hn,rfl,m,hm⟩⟩
 ·have Hn:=QH hn;have Hg:=QH hg;obtain⟨hc,hf⟩:=hr.cell1;have Hr:=QH (hr.flag false);clear hn hg hr;go_wp2;go_ret;exact⟨zN Hg.out (zj.dc _ _ _),.inl ⟨n,r,Hn.out,rfl,Hr.out⟩⟩
 ·have Hn:=QH hn;have Hg:=QH hg;obtain⟨hc,hf⟩:=hm.cell1;have Hr:=QH (hm.flag true);clear hn hg hm;go_wp2;go_ret;exact⟨zN Hg.out (zj.dc _ _ _),.inr ⟨Hn.out,rfl,m,Hr.out⟩⟩
theorem sT (b:Nat)(l:List UInt8)(w:World)(h:zj b l true w) :
    Calls prog 282 #[.pointer (some ⟨b,0,none⟩),.func (.func 283) #[] #[]] w fun e w'=>e=.returned (.string (str []))∧w=w':=by
 go_enter func282,ntmps282;go_wp2_with (go_at_call 280;refine(qi4 b l _ h).mono ?_;rintro e w' ⟨rfl,rfl⟩);go_ret;exact⟨rfl,rfl⟩
theorem qd4(b:Nat)(l:List UInt8)(w:World)(h:zj b l false w):Calls prog 255 #[.pointer (some ⟨b,0,none⟩)] w (bT b l w):=by
 go_enter func255,ntmps255;go_wp2_with (go_at_call 282;refine(sS b l _ h).mono ?_);rintro e w1 ⟨hg,⟨n,r,hn,rfl,hr⟩|⟨hn,rfl,hm⟩⟩
 ·have H:Hid (bT b l w (.returned (.string (str n))) w1):=⟨hg,.inl ⟨n,r,hn,rfl,hr⟩⟩;clear hg hn hr;go_wp2;go_ret;exact H.out
 ·have H:Hid (bT b l w (.returned (.string (str []))) w1):=⟨hg,.inr ⟨hn,rfl,hm⟩⟩;clear hg hn hm;go_wp2;go_ret;exact H.out
theorem qgO(b:Nat)(l:List UInt8)(w:World)(h:zj b l true w):Calls prog 255 #[.pointer (some ⟨b,0,none⟩)] w fun e w'=>e=.returned (.string (str []))∧w=w':=by
 go_enter func255,ntmps255;go_wp2_with (go_at_call 282;refine(sT b l _ h).mono ?_;rintro e w' ⟨rfl,rfl⟩);go_ret;exact⟨rfl,rfl⟩
end Go.Proofs.YtdpbdkacngaemaaGreatDoor.wi

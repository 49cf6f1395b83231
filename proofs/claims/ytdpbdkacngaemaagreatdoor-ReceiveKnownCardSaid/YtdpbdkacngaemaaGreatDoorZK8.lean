/- DkFit3, DkWrite, DkMore, CPure, FPure, JPure, JRun, JSafe. -/
import Derived.Test.YtdpbdkacngaemaaGreatDoorZK7
set_option linter.unusedVariables false
set_option linter.unusedSimpArgs false
set_option maxHeartbeats 30000000
set_option maxRecDepth 100000
namespace Go.Proofs.YtdpbdkacngaemaaGreatDoor.dk
open _root_.Go.Proofs.Tryz Go Go.RowKit
def tell (d:DD):List Int→List Int→Bool
 | _,[]=>true
 | acc,x::r=>if (ask d acc x).1 then tell d (ask d acc x).2 r else false
theorem ew (s:qE):∀(l acc:List Int),acc.length≤(fresh s acc l).length
 | [],_=>Nat.le_refl _
 | x::r,acc=>by
  unfold fresh;split
  ·exact ew s r acc
  ·exact Nat.le_trans (by simp) (ew s r (acc++[x]))
theorem sg (d:DD):∀(l acc:List Int),(acc.length=0∨(acc.length:Int)≤d.room-(d.used:Int)) →
    tell d acc l=(l.all d.has&&(decide ((fresh d.now acc l).length=0) || decide (((fresh d.now acc l).length:Int)≤d.room-(d.used:Int))))
 | [],acc,h=>by
  show true=_;simp only[List.all_nil,fresh,Bool.true_and];rcases h with h|h <;> simp[h]
 | x::r,acc,h=>by
  unfold tell;by_cases hh:d.has x=true
  ·by_cases hs:(look d.now x).isSome=true
   ·have e:ask d acc x=(true,acc):=by unfold ask;rw[if_neg (by rw[hh];simp),if_pos hs]
    rw[e];simp only[if_true,List.all_cons,hh,Bool.true_and];rw[sg d r acc h]
    conv=>rhs;unfold fresh
    rw[hs];rfl
   ·have e:ask d acc x=(decide (((xO acc x).length:Int)≤d.room-(d.used:Int)),xO acc x):=by unfold ask;rw[if_neg (by rw[hh];simp),if_neg hs]
    have hf:fresh d.now acc (x::r)=fresh d.now (xO acc x) r:=by
     conv=>lhs;unfold fresh
     unfold xO;rw[show(look d.now x).isSome=false from by simpa using hs,Bool.false_or];split <;> rfl
    rw[e,hf];simp only[List.all_cons,hh,Bool.true_and];by_cases hle:((xO acc x).length:Int)≤d.room-(d.used:Int)
    ·rw[decide_eq_true hle,if_pos rfl];exact sg d r _ (.inr hle)
    ·rw[decide_eq_false hle,if_neg (by simp)];have h1:=ew d.now r (xO acc x);have h2:0<(xO acc x).length:=by
      unfold xO;split
      ·rename_i hc;cases acc with
       | nil=>simp at hc
       | cons=>simp
      ·simp
     rw[decide_eq_false (by omega),decide_eq_false (by omega)];simp
  ·have e:ask d acc x=(false,acc):=by unfold ask;rw[if_pos (by simpa using hh)]
   rw[e];simp[hh]
theorem qfZ(d:DD)(l:List Int):tell d [] l=d.fits l:=sg d l [] (.inl rfl)
def qH (w:World)(a:Option Addr)(zs:List Int):Prop :=
 ∀i (h:i<zs.length),∃b o,a=some ⟨b,o,none⟩∧b<w.heap.size∧w.cell? ⟨b,o+i,none⟩=some (.int .i64 zs[i]) ∧ -9223372036854775808≤zs[i]∧zs[i]≤9223372036854775807
def okB (r:Bool)(w:World)(e:Ending)(w':World):Prop:=e=.returned (.bool r)∧Below w.heap.size w w'
section
variable {w:World} {p m:Nat} {v:Value} {d:DD} {own:Nat→Prop} {B1 B4 B3 a:Nat} {acc:List Int}
theorem qnq{most:Nat}(h0:d.ok most)(h:kL w own p m v d)(he:Env w p B1 B4 B3 a (d.room-(d.used:Int)) acc)(x:Int)(hl:acc.length<maxLen) :
    Calls prog 279 #[.int .i64 x,.pointer (some ⟨B1,0,none⟩),.pointer (some ⟨B4,0,none⟩),.pointer (some ⟨B3,0,none⟩)] w (iK (ask d acc x) a w):=by
 unfold ask;by_cases hh:d.has x=true
 ·by_cases hs:(look d.now x).isSome=true
  ·rw[if_neg (by rw[hh];simp),if_pos hs];exact qnm h0 h he x hh hs
  ·rw[if_neg (by rw[hh];simp),if_neg hs];exact qnn h0 h he x hh (by simpa using hs) hl
 ·rw[if_pos (by simpa using hh)];exact qnl h he x (by simpa using hh)
theorem Env.step{w':World}{free:Int}{qvq:List Int}(h:Env w p B1 B4 B3 a free acc)(hs:ye w' a qvq)(hb:qB (fun k=>k=a) w w'):Env w' p B1 B4 B3 a free qvq:=by
 have hne:∀ {B t cs},qh w B t cs→B≠a:=by
  rintro B t cs hB rfl;obtain⟨D,⟨es,clock,q,_⟩,_⟩:=h.qu;unfold qh at hB;rw[q]at hB;cases hB
 exact⟨h.b1.of_block (hb.block _ h.b1.lt (hne h.b1)),h.b4.of_block (hb.block _ h.b4.lt (hne h.b4)),h.b3.of_block (hb.block _ h.b3.lt (hne h.b3)),hs⟩
theorem qnr(d:DD)(acc:List Int)(x:Int):(ask d acc x).2.length≤acc.length+1:=by
 unfold ask;split
 ·simp
 ·split
  ·simp
  ·unfold xO;split <;> simp
def qra (d:DD)(zs:List Int)(w:World)(p B1 B4 B3 a:Nat)(i:Value)(wr:World):Prop :=
 ∃k:Nat,k≤zs.length∧i=.int .i64 (k:Int)∧Below w.heap.size w wr∧∃acc,Env wr p B1 B4 B3 a (d.room-(d.used:Int)) acc∧acc.length≤k∧tell d acc (zs.drop k)=d.fits zs
theorem vd {most:Nat}(h:zH most w own p d)(A:Option Addr)(c:Nat)(zs:List Int)(hz:qH w A zs)(hzl:zs.length≤1000000) :
    Calls prog 182 #[.pointer (some ⟨p,0,none⟩),.slice A zs.length c] w (okB (d.fits zs) w):=by
 obtain⟨h0,m,v,h1⟩:=h;have H0:=QH h0;have H1:=QH h1;have HZ:=QH hz;have HF:=QH (qcW h0 h1);have xm:=h1.2.2.2.2.2.2;have HL:=QH xm;clear h0 h1 hz xm;go_enter func182,ntmps182;go_wp2_with (go_at_call 252;refine HF.out.mono ?_);rintro e W1 ⟨B4,B3,a,rfl,hE,hb,ha⟩;have HE:=QH hE;have HB:=QH hb;have HA:=QH ha;clear hE hb ha;go_wp2_with fail;go_loopw [14] (fun i wr=>qra d zs w p w.heap.size B4 B3 a i wr) (fun i _=>zs.length-(intOf i).toNat);case atStart=>exact⟨0,Nat.zero_le _,rfl,HB.out,[],HE.out,Nat.le_refl _,qfZ d zs⟩
 case round =>
  obtain⟨k,hk,rfl,hB,acc,hEn,hac,htl⟩:=hrel;have HBr:=QH hB;have HEr:=QH hEn;have HT:=QH htl;have HAc:=QH hac;by_cases hlt:k<zs.length
  ·obtain⟨b,o,rfl,iy,lI,hx0,hx1⟩:=HZ.out k hlt;have hcell:wr.cell? ⟨b,o+k,none⟩=some (.int .i64 zs[k]):=by rw[hB.cell (p:=⟨b,o+k,none⟩) iy];exact lI
   have hkr:kL wr own p m v d:=H1.out.keep hB.size (fun j hj=>hB.block j (HL.out j hj));have qvr:=qnq H0.out hkr hEn zs[k] (by unfold maxLen;omega);have hbs:b<wr.heap.size:=Nat.lt_of_lt_of_le iy hB.size;have qvs:d.fits zs=if (ask d acc zs[k]).1 then tell d (ask d acc zs[k]).2 (zs.drop (k+1))else false:=by
    rw[← htl,List.drop_eq_getElem_cons hlt];rfl
   have fF:=qnr d acc zs[k];generalize zs[k]=x at *;have HT2:=QH qvs;have HAL:=QH fF;have qvt:=QH qvr;clear qvs fF qvr hB hEn htl hac lI iy hkr;cases hq:(ask d acc x).1 with
   | true =>
    have HQ:=QH hq;rw[hq,if_pos rfl]at HT2;clear hq;go_wp2_with (go_at_call 279;refine qvt.out.mono ?_);rintro e w2 ⟨rfl,hs2,hb2⟩;rw[HQ.out];have kY:=QH hs2;have qG:=QH hb2;clear hs2 hb2;go_wp2_with fail;go_roundw;case rel=>exact⟨k+1,by omega,by go_num,HBr.out.trans (qG.out.below (fun i e=>by subst e;exact HA.out) HBr.out.size),_,HEr.out.step kY.out qG.out,(by have:=HAc.out;have:=HAL.out;omega),HT2.out.symm⟩
    case measure=>simp[intOf];omega
   | false =>
    have HQ:=QH hq;rw[hq,if_neg (by simp)]at HT2;clear hq;go_wp2_with (go_at_call 279;refine qvt.out.mono ?_);rintro e w2 ⟨rfl,hs2,hb2⟩;rw[HQ.out];have qG:=QH hb2;clear hs2 hb2;go_wp2_with fail;go_ret;exact⟨(by rw[HT2.out];rfl),HBr.out.trans (qG.out.below (fun i e=>by subst e;exact HA.out) HBr.out.size)⟩
  ·have hkn:k=zs.length:=by omega
   subst hkn;clear hB hEn htl hac;go_wp2_with fail;go_ret;have:=HT.out;rw[List.drop_length]at this;exact⟨by rw[← this];rfl,HBr.out⟩
end
end Go.Proofs.YtdpbdkacngaemaaGreatDoor.dk
namespace Go.Proofs.YtdpbdkacngaemaaGreatDoor.dk
open _root_.Go.Proofs.Tryz Go Go.RowKit
section
variable {w:World} {p m:Nat} {v:Value} {d:DD} {own:Nat→Prop}
theorem xH (d:DD):d.oper.base=d.base∧d.oper.more=d.more∧d.oper.room=d.room:=by
 unfold DD.oper DD.off;split
 ·exact⟨rfl,rfl,rfl⟩
 ·split <;> exact⟨rfl,rfl,rfl⟩
theorem wX (d:DD):d.oper.now=d.now:=by unfold DD.now;rw[(xH d).1,(xH d).2.1]
theorem qj1(d:DD):d.oper.n=d.n:=by unfold DD.n;rw[(xH d).1]
theorem qj2(d:DD)(k:Int)(hh:d.has k=true):d.fits [k]=((look d.now k).isSome || decide ((d.used:Int)<d.room)):=by
 unfold DD.fits;simp only[List.all_cons,List.all_nil,hh,Bool.and_self,Bool.true_and,fresh];by_cases hx:(look d.now k).isSome=true
 ·simp[hx]
 ·simp[hx];omega
theorem lJ (w:World)(k:Int)(h0 : -9223372036854775808≤k)(h1:k≤9223372036854775807):qH (w.alloc (.cells #[.int .i64 k] 3)) (some ⟨w.heap.size,0,none⟩) [k]:=by
 intro i h;have hi:i=0:=by simpa using h
 subst hi;refine⟨w.heap.size,0,rfl,by simp,?_,h0,h1⟩;rw[cell_of_row _ _ _ _ _ _ (heap_alloc_new w _)];rfl
theorem qga{most:Nat}(h:zH most w own p d)(zW:d.on=false)(k:Int)(s:ByteArray) :
    Calls prog 194 #[.pointer (some ⟨p,0,none⟩),.int .i64 k,.string s] w (xp most own p d (.int .i64 6) w):=by
 have H:=QH h;obtain⟨h0,m,v,h1⟩:=h;obtain⟨c0,c1,c2,c3,c4,c5⟩:=jC h1.1;rw[zW]at c4;clear h0 h1 c0 c1 c2 c3 c5 zW;go_enter func194,ntmps194;go_wp2_with fail;go_ret;exact⟨rfl,own,H.out,qB.refl _ _,um.refl _ _⟩
theorem qgb{most:Nat}(h:zH most w own p d)(zW:d.on=true)(k:Int)(hh:d.has k=false)(s:ByteArray) :
    Calls prog 194 #[.pointer (some ⟨p,0,none⟩),.int .i64 k,.string s] w (xp most own p d (.int .i64 2) w):=by
 have H:=QH h;obtain⟨h0,m,v,h1⟩:=h;have hhas:=jF h1 k;rw[hh]at hhas;have HH:=QH hhas;obtain⟨c0,c1,c2,c3,c4,c5⟩:=jC h1.1;rw[zW]at c4;clear h0 h1 c0 c1 c2 c3 c5 zW hhas hh;go_enter func194,ntmps194;go_wp2_with (go_at_call 197;refine HH.out.mono ?_;rintro e w' ⟨rfl,rfl⟩);go_ret;exact⟨rfl,own,H.out,qB.refl _ _,um.refl _ _⟩
theorem qgc{most:Nat}(h:zH most w own p d)(zW:d.on=true)(k:Int)(hh:d.has k=true)(s:ByteArray)(hs:s.size≠32) :
    Calls prog 194 #[.pointer (some ⟨p,0,none⟩),.int .i64 k,.string s] w (xp most own p d (.int .i64 2) w):=by
 have H:=QH h;obtain⟨h0,m,v,h1⟩:=h;have hhas:=jF h1 k;rw[hh]at hhas;have HH:=QH hhas;obtain⟨c0,c1,c2,c3,c4,c5⟩:=jC h1.1;rw[zW]at c4;have hsz:((s.size:Int) == 32)=false:=by rw[beq_eq_false_iff_ne];omega
 clear h0 h1 c0 c1 c2 c3 c5 zW hhas hh hs;go_enter func194,ntmps194;go_wp2_with (go_at_call 197;refine HH.out.mono ?_;rintro e w' ⟨rfl,rfl⟩);go_ret;exact⟨rfl,own,H.out,qB.refl _ _,um.refl _ _⟩
theorem qcY{most:Nat}(h:zH most w own p d)(zW:d.on=true)(k:Int)(hh:d.has k=true)(s:ByteArray)(hs:s.size=32)(hf:d.fits [k]=false) :
    Calls prog 194 #[.pointer (some ⟨p,0,none⟩),.int .i64 k,.string s] w (xp most own p d (.int .i64 7) w):=by
 have hk0:0≤k∧k<(d.n:Int):=by simpa[DD.has]using hh
 have hn:=h.1.n1;have h2:zH most (w.alloc (.cells #[.int .i64 k] 3)) own p d:=h.keep (by simp) (fun j hj=>Below.heap_alloc _ _ _ (h.2.choose_spec.choose_spec.2.2.2.2.2.2 j hj));have HF:=QH (vd h2 _ 1 [k] (lJ w k (by omega) (by omega)) (by simp));rw[hf]at HF;have H:=QH h;have H2:=QH h2;have xm:∀j,own j→j<w.heap.size:=fun j hj=>h.2.choose_spec.choose_spec.2.2.2.2.2.2 j hj;have HL:=QH xm;obtain⟨h0,m,v,h1⟩:=h;have hhas:=jF h1 k;rw[hh]at hhas;have HH:=QH hhas;obtain⟨c0,c1,c2,c3,c4,c5⟩:=jC h1.1;rw[zW]at c4;have hsz:((s.size:Int) == 32)=true:=by rw[beq_iff_eq];omega
 clear h0 h1 c0 c1 c2 c3 c5 zW hhas hh hs hf h2 xm hk0 hn;go_enter func194,ntmps194;go_wp2_with (first|(go_at_call 197;refine HH.out.mono ?_;rintro e w' ⟨rfl,rfl⟩)|(go_at_call 182;refine HF.out.mono ?_;rintro e w2 ⟨rfl,hb2⟩;have qG:=QH hb2;clear hb2));go_ret;have hB:Below w.heap.size w w2:=((Below.refl _ w).alloc (Nat.le_refl _) _).trans (qG.out.mono (by simp));exact⟨rfl,own,H.out.keep hB.size (fun j hj=>hB.block j (HL.out j hj)),qB.of_below hB,um.refl _ _⟩
end
end Go.Proofs.YtdpbdkacngaemaaGreatDoor.dk
namespace Go.Proofs.YtdpbdkacngaemaaGreatDoor.dk
open _root_.Go.Proofs.Tryz Go Go.RowKit
theorem qcZ(d:DD)(k:Int)(v:Bt):(d.write k v).2.more.length≤d.more.length+1:=by
 have ho:=(xH d).2.1;unfold DD.write;split
 ·simp
 ·split
  ·simp
  ·split
   ·simp
   ·split
    ·simp[ho]
    ·simp
end Go.Proofs.YtdpbdkacngaemaaGreatDoor.dk
namespace Go.Proofs.YtdpbdkacngaemaaGreatDoor
open _root_.Go.Proofs.Tryz Go
def jZ (n:Nat):Nat:=if n%2=1 then n/2^^^3988292384 else n/2
def xI:Nat→Nat→Nat
 | 0,n=>n
 | k+1,n=>xI k (jZ n)
def ve (n:Nat)(b:UInt8):Nat:=xI 8 (n^^^b.toNat)
def oh (n:Nat)(l:List UInt8):Nat:=l.foldl ve n
def uE (l:List UInt8):Nat:=oh 4294967295 l^^^4294967295
theorem lK (n:Nat):jZ n=n/2^^^(if n%2=1 then 3988292384 else 0):=by
 unfold jZ;split <;> simp
theorem qj3(a b:Nat):(a^^^b)%2=(a%2)^^^(b%2):=Nat.xor_mod_two_pow (n:=1)
theorem qgd(a b:Nat):jZ (a^^^b)=jZ a^^^jZ b:=by
 rw[lK,lK a,lK b,Nat.xor_div_two,qj3];have ha:a%2=0∨a%2=1:=by omega
 have hb:b%2=0∨b%2=1:=by omega
 have h2:∀x y p:Nat,x^^^(y^^^p)=x^^^y^^^p:=fun x y p=>(Nat.xor_assoc x y p).symm;have h3:∀x p:Nat,x^^^p^^^p=x:=fun x p=>by
  rw[Nat.xor_assoc,Nat.xor_self,Nat.xor_zero]
 have h4:∀x y p:Nat,x^^^p^^^y=x^^^y^^^p:=fun x y p=>by
  rw[Nat.xor_assoc,Nat.xor_comm p y,← Nat.xor_assoc]
 rcases ha with ha|ha <;> rcases hb with hb|hb <;> simp[ha,hb,h2,h3,h4]
theorem av:∀(k a b:Nat),xI k (a^^^b)=xI k a^^^xI k b
 | 0,_,_=>rfl
 | k+1,a,b=>by simp only[xI,qgd,av k]
theorem qj4(n:Nat)(h:n<4294967296):jZ n<4294967296:=by
 unfold jZ;split
 ·exact Nat.xor_lt_two_pow (n:=32) (by omega) (by omega)
 ·omega
theorem pA:∀(k n:Nat),n<4294967296→xI k n<4294967296
 | 0,_,h=>h
 | k+1,n,h=>pA k _ (qj4 n h)
theorem qpl(b:UInt8):b.toNat<256:=b.toNat_lt
theorem qaI(n:Nat)(b:UInt8)(h:n<4294967296):n^^^b.toNat<4294967296:=by
 have:=qpl b;exact Nat.xor_lt_two_pow (n:=32) (by omega) (by omega)
theorem qaJ(n:Nat)(b:UInt8)(h:n<4294967296):ve n b<4294967296 :=
 pA 8 _ (qaI n b h)
theorem si:∀(l:List UInt8) (n:Nat),n<4294967296→oh n l<4294967296
 | [],_,h=>h
 | b::l,n,h=>si l _ (qaJ n b h)
theorem qge(l:List UInt8):uE l<4294967296 :=
 Nat.xor_lt_two_pow (n:=32) (si l _ (by omega)) (by omega)
theorem qgf(n:Nat)(l:List UInt8)(b:UInt8):oh n (l++[b])=ve (oh n l) b:=by
 simp[oh]
def bA:List Nat:=[0,498536548,997073096,651767980,1994146192,1802195444,1303535960,1342533948,3988292384,4027552580,3604390888,3412177804,2607071920,2262029012,2685067896,3183342108]
def xV (n f:Nat):Nat:=n/16^^^bA.getD ((n%256^^^f)%16) 0
theorem qeH(n:Nat):n=n/16*16^^^n%16:=by
 have hd:(n/16*16^^^n%16)/2 ^ 4=n/16:=by
  rw[Nat.xor_div_two_pow];have h1:n/16*16/2 ^ 4=n/16:=by omega
  have h2:n%16/2 ^ 4=0:=by omega
  rw[h1,h2,Nat.xor_zero]
 have hm:(n/16*16^^^n%16)%2 ^ 4=n%16:=by
  rw[Nat.xor_mod_two_pow];have h1:n/16*16%2 ^ 4=0:=by omega
  have h2:n%16%2 ^ 4=n%16:=by omega
  rw[h1,h2,Nat.zero_xor]
 omega
theorem bB (m:Nat):xI 4 (m*16)=m:=by
 have h1:jZ (m*16)=m*8:=by unfold jZ;rw[if_neg (by omega)];omega
 have h2:jZ (m*8)=m*4:=by unfold jZ;rw[if_neg (by omega)];omega
 have h3:jZ (m*4)=m*2:=by unfold jZ;rw[if_neg (by omega)];omega
 have h4:jZ (m*2)=m:=by unfold jZ;rw[if_neg (by omega)];omega
 simp only[xI,h1,h2,h3,h4]
theorem qaK:∀r:Nat,r<16→xI 4 r=bA.getD r 0:=by decide +kernel
theorem qns(n:Nat):xI 4 n=n/16^^^bA.getD (n%16) 0:=by
 have h:=qeH n;have e:xI 4 (n/16*16^^^n%16)=n/16^^^bA.getD (n%16) 0:=by
  rw[av,bB,qaK _ (by omega)]
 rw[← h]at e;exact e
theorem lL (j:Nat):∀(k n:Nat),xI (k+j) n=xI j (xI k n)
 | 0,n=>by simp[xI]
 | k+1,n=>by
  rw[show k+1+j=(k+j)+1 from by omega];simp only[xI];exact lL j k _
theorem dx (a b:Nat):(a^^^b)%16=(a%16)^^^(b%16):=Nat.xor_mod_two_pow (n:=4)
theorem qgg(a b:Nat):(a^^^b)/16=(a/16)^^^(b/16):=Nat.xor_div_two_pow (n:=4)
theorem fK (n f:Nat)(hf:f/16=0):xV n f=xI 4 (n^^^f):=by
 rw[qns,qgg,hf,Nat.xor_zero,dx];unfold xV;rw[dx,show n%256%16=n%16 from by omega]
theorem sj (n f:Nat):xV n f=xV n (f%16):=by
 unfold xV;rw[dx,dx _ (f%16),show f%16%16=f%16 from by omega]
theorem halves(n:Nat)(b:UInt8):xV (xV n b.toNat) (b.toNat/16)=ve n b:=by
 have hb:=qpl b;unfold ve;rw[sj n,fK _ _ (by omega),fK _ _ (by omega),lL 4 4]
 congr 1
 have h:=qeH b.toNat;have e:xI 4 (n^^^b.toNat)=xI 4 (n^^^b.toNat%16)^^^b.toNat/16:=by
  have:n^^^b.toNat=(n^^^b.toNat%16)^^^b.toNat/16*16:=by
   rw[Nat.xor_assoc,Nat.xor_comm (b.toNat%16),← h]
  rw[this,av,bB]
 exact e.symm
theorem qaL(n f:Nat)(h:n<4294967296):xV n f<4294967296:=by
 have hi:(n%256^^^f)%16<16:=Nat.mod_lt _ (by omega);have ht:∀i:Nat,i<16→bA.getD i 0<4294967296:=by decide
 exact Nat.xor_lt_two_pow (n:=32) (by omega) (ht _ hi)
def be4 (n:Nat):List UInt8:=[UInt8.ofNat (n/16777216%256),UInt8.ofNat (n/65536%256),UInt8.ofNat (n/256%256),UInt8.ofNat (n%256)]
theorem ofNat_inj(a b:Nat)(ha:a<256)(hb:b<256)(h:UInt8.ofNat a=UInt8.ofNat b):a=b:=by
 have:=congrArg UInt8.toNat h;simp[UInt8.toNat_ofNat']at this;omega
def qeI (l:List UInt8):List UInt8:=be4 (uE l)
def wY (l:List UInt8):List UInt8:=l++qeI l
def qj5 (l:List UInt8):Option (List UInt8) :=
 if l.length<4 then none
 else if l.drop (l.length-4)=qeI (l.take (l.length-4))then some (l.take (l.length-4))else none
theorem sq (l:List UInt8):(qeI l).length=4:=rfl
theorem bC (l:List UInt8):(wY l).length=l.length+4:=by simp[wY,sq]
theorem qaM(l:List UInt8):qj5 (wY l)=some l:=by
 have h:(wY l).length-4=l.length:=by rw[bC];omega
 unfold qj5;rw[if_neg (by rw[bC];omega),h];have h1:(wY l).drop l.length=qeI l:=by simp[wY]
 have h2:(wY l).take l.length=l:=by simp[wY]
 rw[h1,h2,if_pos rfl]
def nsec (n:Nat):Nat:=(n+37)/32
def pad (l:List UInt8):List UInt8:=l++List.replicate (32-l.length) 0
def iB (n:Nat):List UInt8:=[UInt8.ofNat (n/256%256),UInt8.ofNat (n%256)]
def headB (t:List UInt8):List UInt8:=iB t.length++be4 (uE t)
def iC (t:List UInt8):List UInt8:=headB t++t
def yw (t:List UInt8):List UInt8:=iC t++List.replicate (nsec t.length*32-6-t.length) 0
def kO (f:List UInt8)(i:Nat):List UInt8:=(f.drop (32*i)).take 32
def chunks (k:Nat)(f:List UInt8):List (List UInt8):=(List.range k).map (kO f)
def vg (k:Nat)(f:List UInt8):List (List UInt8):=(List.range k).map fun i=>pad (kO f i)
def qJ (t:List UInt8):List (List UInt8):=vg (nsec t.length) (iC t)
def uF (ps:List (List UInt8))(t:List UInt8):Prop:=t.length≤8192∧ps=qJ t
theorem sr (t:List UInt8):(headB t).length=6:=rfl
theorem wZ (t:List UInt8):(iC t).length=t.length+6:=by simp[iC,sr];omega
theorem su (n:Nat):n+6≤nsec n*32:=by unfold nsec;omega
theorem bD (n:Nat):0<nsec n:=by unfold nsec;omega
theorem yR (t:List UInt8):(yw t).length=32*nsec t.length:=by
 have:=su t.length;simp[yw,wZ];omega
theorem xP (t:List UInt8):(qJ t).length=nsec t.length:=by simp[qJ,vg]
theorem sw (k:Nat)(f:List UInt8):(vg k f).length=k:=by simp[vg]
theorem qda(k:Nat)(f:List UInt8):vg (k+1) f=vg k f++[pad (kO f k)]:=by simp[vg,List.range_succ]
theorem qaN(k:Nat)(f:List UInt8):chunks (k+1) f=chunks k f++[kO f k]:=by simp[chunks,List.range_succ]
theorem wb (f:List UInt8)(i:Nat):(kO f i).length≤32:=by simp[kO];omega
theorem lM (l:List UInt8)(h:l.length≤32):(pad l).length=32:=by simp[pad];omega
theorem qgh(t:List UInt8)(i:Nat)(h:i<nsec t.length):pad (kO (iC t) i)=kO (yw t) i:=by
 have hl:=wZ t;have hn:=su t.length;have hi:32*i≤(iC t).length:=by unfold nsec at h;omega
 have ht:32*(i+1)≤nsec t.length*32:=by omega
 unfold pad kO yw;rw[List.drop_append_of_le_length hi,List.take_append,List.take_replicate,List.length_take,List.length_drop]
 congr 1
 congr 1
 omega
theorem qaO(t:List UInt8):qJ t=chunks (nsec t.length) (yw t):=by
 unfold qJ vg chunks;apply List.map_congr_left;intro i hi;exact qgh t i (by simpa using hi)
theorem gh (f:List UInt8):∀k,(chunks k f).flatten=f.take (32*k)
 | 0=>by simp[chunks]
 | k+1=>by
  rw[qaN,List.flatten_append,gh f k];simp only[List.flatten_cons,List.flatten_nil,List.append_nil,kO];rw[show 32*(k+1)=32*k+32 from by omega,List.take_add]
theorem yE (t:List UInt8):(qJ t).flatten=yw t:=by
 rw[qaO,gh,List.take_of_length_le];rw[yR];exact Nat.le_refl _
theorem dy (t:List UInt8)(i:Nat)(h:i<(qJ t).length):(qJ t)[i].length=32:=by
 simp only[qJ,vg,List.getElem_map];exact lM _ (wb _ _)
theorem qaP(k:Nat)(f:List UInt8):chunks (k+1) f=f.take 32::chunks k (f.drop 32):=by
 simp only[chunks,List.range_succ_eq_map,List.map_cons,List.map_map,kO]
 congr 1
 apply List.map_congr_left;intro i _;simp only[Function.comp,kO,List.drop_drop];rw[show 32*(i+1)=32+32*i from by omega]
theorem chunks_flatten:∀ps:List (List UInt8),(∀i (h:i<ps.length),ps[i].length=32)→chunks ps.length ps.flatten=ps
 | [],_=>rfl
 | p::ps,h=>by
  have h0:p.length=32:=h 0 (by simp);have ih:=chunks_flatten ps fun i hi=>h (i+1) (Nat.succ_lt_succ hi);rw[List.length_cons,qaP,List.flatten_cons,List.take_left' h0,List.drop_left' h0,ih]
theorem vh:∀ps:List (List UInt8),(∀i (h:i<ps.length),ps[i].length=32)→ps.flatten.length=32*ps.length
 | [],_=>rfl
 | p::ps,h=>by
  have h0:p.length=32:=h 0 (by simp);have ih:=vh ps fun i hi=>h (i+1) (Nat.succ_lt_succ hi);rw[List.flatten_cons,List.length_append,ih,h0,List.length_cons];omega
theorem ki (t:List UInt8):(yw t).take 2=iB t.length:=rfl
theorem sx (t:List UInt8):(yw t).drop 6=t++List.replicate (nsec t.length*32-6-t.length) 0:=rfl
theorem gj (t:List UInt8):((yw t).drop 6).take t.length=t:=by rw[sx];simp
theorem qaQ(n m:Nat)(hn:n<65536)(hm:m<65536)(h:iB n=iB m):n=m:=by
 simp only[iB,List.cons.injEq,and_true]at h;have:=ofNat_inj _ _ (by omega) (by omega) h.1;have:=ofNat_inj _ _ (by omega) (by omega) h.2;omega
theorem qj6(n:Nat)(h:n<65536):256*(UInt8.ofNat (n/256%256)).toNat+(UInt8.ofNat (n%256)).toNat=n:=by
 simp[UInt8.toNat_ofNat'];omega
theorem qdb(t u:List UInt8)(ht:t.length<65536)(hu:u.length<65536)(h:yw t=yw u):t=u:=by
 have hl:=qaQ _ _ ht hu (by rw[← ki,← ki,h]);rw[← gj t,← gj u,h,hl]
theorem qj7(t u:List UInt8)(ht:t.length<65536)(hu:u.length<65536)(h:qJ t=qJ u):t=u :=
 qdb t u ht hu (by rw[← yE,← yE,h])
theorem lN (ps:List (List UInt8))(t u:List UInt8)(ht:uF ps t)(hu:uF ps u):t=u :=
 qj7 t u (by have:=ht.1;omega) (by have:=hu.1;omega) (by rw[← ht.2,← hu.2])
def oq (f:List UInt8):Option (List UInt8) :=
 match f with
 | a::b::_::_::_::_::r=>if r.length<256*a.toNat+b.toNat then none else some (r.take (256*a.toNat+b.toNat))
 | _=>none
theorem qdc(f:List UInt8)(h:f.length<6):oq f=none:=by
 unfold oq;split
 ·simp at h;omega
 ·rfl
theorem qeJ(f:List UInt8)(h:6≤f.length):oq f=if f.length-6<256*f[0].toNat+f[1].toNat then none else some ((f.drop 6).take (256*f[0].toNat+f[1].toNat)):=by
 match f,h with
 | a::b::_::_::_::_::r,_=>simp[oq]
theorem qdd(t:List UInt8)(ht:t.length<65536):oq (yw t)=some t:=by
 have hl:=su t.length;have hw:=yR t;have h0:(yw t)[0]'(by omega)=UInt8.ofNat (t.length/256%256):=rfl;have h1:(yw t)[1]'(by omega)=UInt8.ofNat (t.length%256):=rfl;rw[qeJ _ (by omega),h0,h1,qj6 _ ht,if_neg (by omega),gj]
end Go.Proofs.YtdpbdkacngaemaaGreatDoor
namespace Go.Proofs.YtdpbdkacngaemaaGreatDoor.jr
open _root_.Go.Proofs.Tryz dk wi
abbrev Wr:=Int × Bt
inductive Step where
 | w (k:Int) (v:Bt)
 | f
def jt (d:DD):Step→Int × DD
 | .w k v=>d.write k v
 | .f=>d.flush
def gq:List Step→DD→Int × DD
 | [],d=>(0,d)
 | s::r,d=>if (jt d s).1=0 then gq r (jt d s).2 else jt d s
def jo (l:List Wr):List Step:=l.map fun x=>.w x.1 x.2
def qC:List (List Wr)→List Step
 | []=>[]
 | l::r=>jo l ++ .f::qC r
def rd (s:qE)(k:Int):Bt:=(dk.look s k).getD zz
def jR (a c:Nat):Bt:=zk (a+1)++zk c++List.replicate (32-(zk (a+1)).length-(zk c).length) 0
def pairs:List (Nat × Nat):=(List.range 2).flatMap fun a=>(List.range 73).map fun c=>(a,c)
def dL (s:Bt):Option (Nat × Nat):=pairs.find? fun p=>jR p.1 p.2 == s
def wB (x:Wr):Bt:=zk x.1.toNat++dP x.2
def ze (l:List Wr):Bt:=zk l.length++(l.map wB).flatten
def ey:Nat→Bt→Option (List Wr × Bt)
 | 0,t=>some ([],t)
 | n+1,t=>match rdNum t with
  | none=>none
  | some (a,t1)=>match yJ t1 with
   | none=>none
   | some (v,t2)=>match ey n t2 with
    | none=>none
    | some (l,r)=>some ((((min a 1024:Nat):Int),v)::l,r)
def dU (t:Bt):Option (List Wr):=match rdNum t with
 | none=>none
 | some (n,r)=>if n<1∨60<n then none else match ey n r with
  | some (l,[])=>some l
  | _=>none
open Classical in
noncomputable def unB (ps:List Bt):Option Bt:=if h:∃t,uF ps t then some h.choose else none
def zL (s:qE)(a c:Nat):List Bt:=(List.range c).map fun i=>rd s ((1+a*72+i:Nat):Int)
noncomputable def gu (s:qE)(a c:Nat):Option (List Wr):=(unB (zL s a c)).bind dU
def okW (n:Nat)(x:Wr):Bool:=decide (145≤x.1)&&decide (x.1<(n:Int))&&decide (x.2.length=32)
def found (acc:List Int)(l:List Wr):List Int:=l.foldl (fun acc x=>xO acc x.1) acc
def uG (n:Nat)(l:List Wr):Bool:=l.all (okW n)&&decide ((found [] l).length=l.length)
def zf:Nat→List Bt→List Wr
 | _,[]=>[]
 | o,s::r=>((o:Int),s)::zf (o+1) r
def lay (a:Nat)(ss:List Bt):List Wr:=zf (1+a*72) ss
def yF (a:Nat)(l:List Wr):List (List Wr):=[lay (1-a) (qJ (ze l)),[(0,jR (1-a) (qJ (ze l)).length)],l]
def placesOf(bs:List (List Wr)):List Int:=bs.flatten.map (·.1)
def jG (d:DD):Int × DD:=if d.on=false then(6,d)else if d.n≤145 then(2,d)else gq (qC [[(0,jR 0 0)]]) d
def zS (d:DD)(l:List Wr):Int × DD :=
 if d.on=false then(6,d)
 else if l.length=0 then(0,d)
 else if 60<l.length then(3,d)
 else if uG d.n l=false then(2,d)
 else match dL (rd d.now 0)with
  | none=>(8,d)
  | some (a,_) =>
   if 8192<(ze l).length∨72<(qJ (ze l)).length then(3,d)
   else if d.fits (placesOf (yF a l))=false then(7,d)
   else gq (qC (yF a l)) d
noncomputable def zX (d:DD):Int × DD :=
 if d.on=false then(6,d)
 else match dL (rd d.now 0)with
  | none=>(8,d)
  | some (a,c) =>
   if c=0 then(0,d)
   else match gu d.now a c with
    | none=>(8,d)
    | some l=>if uG d.n l=false then(8,d)else gq (qC [l]) d
theorem qrd:pairs.all (fun p=>decide ((jR p.1 p.2).length=32)&&decide (dL (jR p.1 p.2)=some p)&&decide (jR p.1 p.2≠zz))=true:=by decide +kernel
theorem qgi{a c:Nat}(ha:a<2)(hc:c≤72):(a,c)∈pairs:=by
 unfold pairs;rw[List.mem_flatMap];exact⟨a,by simpa using ha,List.mem_map.2 ⟨c,by simp;omega,rfl⟩⟩
theorem qj8{p:Nat × Nat}(h:p∈pairs):p.1<2∧p.2≤72:=by
 unfold pairs at h;rw[List.mem_flatMap]at h;obtain⟨a,ha,h⟩:=h;obtain⟨c,hc,rfl⟩:=List.mem_map.1 h;simp at ha hc;exact⟨ha,by omega⟩
theorem kP {a c:Nat}(ha:a<2)(hc:c≤72):(jR a c).length=32∧dL (jR a c)=some (a,c)∧jR a c≠zz:=by
 have:=List.all_eq_true.1 qrd (a,c) (qgi ha hc);simp only[Bool.and_eq_true,decide_eq_true_eq]at this;exact⟨this.1.1,this.1.2,this.2⟩
theorem kx {s:Bt}{a c:Nat}(h:dL s=some (a,c)):a<2∧c≤72∧s=jR a c:=by
 have h1:=List.find?_some h;have h2:=qj8 (List.mem_of_find?_eq_some h);exact⟨h2.1,h2.2,(by simpa using h1:jR a c=s).symm⟩
theorem qeK:∀(l:List Wr) (r:Bt),(∀x∈l,0≤x.1∧x.1≤1024∧x.2.length=32)→ey l.length ((l.map wB).flatten++r)=some (l,r)
 | [],r,_=>rfl
 | x::l,r,h=>by
  obtain⟨h0,h1,h2⟩:=h x (by simp);have ih:=qeK l r (fun y hy=>h y (by simp[hy]));simp only[List.length_cons,List.map_cons,List.flatten_cons,ey,wB,List.append_assoc];rw[kq _ (by omega)];dsimp only;rw[iW _ (by omega)];dsimp only;rw[ih];have e:((min x.1.toNat 1024:Nat):Int)=x.1:=by omega
  simp only[e]
theorem qgj(l:List Wr)(h0:1≤l.length)(h1:l.length≤60)(h:∀x∈l,0≤x.1∧x.1≤1024∧x.2.length=32):dU (ze l)=some l:=by
 unfold dU ze;rw[kq _ (by omega)];dsimp only;rw[if_neg (by omega)];have:=qeK l [] h;rw[List.append_nil]at this;rw[this]
theorem qj9(t:Bt)(h:t.length≤8192):unB (qJ t)=some t:=by
 unfold unB;have hx:∃u,uF (qJ t) u:=⟨t,h,rfl⟩;rw[dif_pos hx];exact congrArg some (lN _ _ _ hx.choose_spec ⟨h,rfl⟩)
theorem qy (n:Nat):(zk n).length≤9:=by
 have:=jh n;simp[zk];omega
theorem qre(x:Wr)(h:x.2.length=32):(wB x).length≤50:=by
 have h1:=qy x.1.toNat;have h2:=qy x.2.length;simp only[wB,dP,List.length_append];omega
theorem qjA(l:List Wr)(h:∀x∈l,x.2.length=32):((l.map wB).flatten).length≤50*l.length:=by
 induction l with
 | nil=>simp
 | cons x l ih =>
  have:=qre x (h x (by simp));have:=ih (fun y hy=>h y (by simp[hy]));simp only[List.map_cons,List.flatten_cons,List.length_append,List.length_cons];omega
theorem qgk(l:List Wr):∀acc:List Int,(found acc l).length≤acc.length+l.length:=by
 induction l with
 | nil=>intro acc;simp[found]
 | cons x l ih =>
  intro acc;have h1:=ih (xO acc x.1);have h2:(xO acc x.1).length≤acc.length+1:=by
   unfold xO;split <;> simp
  simp only[found,List.foldl_cons,List.length_cons]at h1 ⊢;omega
def nat (l:List Wr):List (Nat × Bt):=l.map fun x=>(x.1.toNat,x.2)
theorem xd:∀(l:List (Nat × Bt)) (s:qE) (k:Int),(∀x∈l,(x.1:Int)≠k)→dk.look (qQ s l) k=dk.look s k
 | [],_,_,_=>rfl
 | x::l,s,k,h=>by
  rw[cZ,xd l _ k (fun y hy=>h y (by simp[hy]))];exact zO s x.1 k _ (Ne.symm (h x (by simp)))
theorem bE:∀(l:List (Nat × Bt)) (s s':qE) (k:Nat),k<s.length→k<s'.length→(∃x∈l,x.1=k)→dk.look (qQ s l) (k:Int)=dk.look (qQ s' l) (k:Int)
 | [],_,_,_,_,_,⟨x,hx,_⟩=>absurd hx (by simp)
 | x::l,s,s',k,hs,hs',h=>by
  rw[cZ,cZ];by_cases hl:∃y∈l,y.1=k
  ·exact bE l _ _ k (by simpa[dk.put]using hs) (by simpa[dk.put]using hs') hl
  ·have hx:x.1=k:=by
      obtain⟨y,hy,e⟩:=h;rcases List.mem_cons.1 hy with rfl|hy
      ·exact e
      ·exact absurd ⟨y,hy,e⟩ hl
   have hn:∀y∈l,(y.1:Int)≠(k:Int):=fun y hy e=>hl ⟨y,hy,by omega⟩;rw[xd l _ _ hn,xd l _ _ hn,hx];unfold dk.put;rw[zy _ _ _ hs,zy _ _ _ hs']
theorem qgl(l y:List (Nat × Bt))(s:qE)(k:Int)(hy:∀x∈y,x∈l)(hl:∀x∈l,x.1<s.length):dk.look (qQ (qQ s y) l) k=dk.look (qQ s l) k:=by
 by_cases hk:∃x∈l,(x.1:Int)=k
 ·obtain⟨x,hx,rfl⟩:=hk;exact bE l _ _ x.1 (by rw[xa];exact hl x hx) (hl x hx) ⟨x,hx,rfl⟩
 ·have hn:∀x∈l,(x.1:Int)≠k:=fun x hx e=>hk ⟨x,hx,e⟩;rw[xd l _ _ hn,xd l _ _ hn,xd y _ _ (fun x hx=>hn x (hy x hx))]
end Go.Proofs.YtdpbdkacngaemaaGreatDoor.jr
namespace Go.Proofs.YtdpbdkacngaemaaGreatDoor.jr
open _root_.Go.Proofs.Tryz dk wi
abbrev BM:=qE × List (Nat × Bt)
def ap (x:BM):Step→BM
 | .w k v=>(x.1,x.2++[(k.toNat,v)])
 | .f=>(qQ x.1 x.2,[])
def apL (ss:List Step)(x:BM):BM:=ss.foldl ap x
def fL (n:Nat):Step→Prop
 | .w k v=>0≤k∧k<(n:Int)∧v.length=32
 | .f=>True
def mk (d:DD)(x:BM)(on:Bool)(qz:Int):DD:={ room:=d.room,base:=x.1,more:=x.2,on:=on,qz:=qz }
def less (f:Int)(n:Nat):Int:=if f=0 then 0 else f-n
theorem qrf(s:qE)(k:Nat)(h:k<s.length)(hl:(dk.look s (k:Int)).isSome=false):cnt s<s.length:=by
 have h1:=vK s k [] h;rw[hl]at h1;have h2:=rW (s.set k (some []));rw[h1,List.length_set]at h2;simp at h2;omega
theorem qvu(x:BM)(s:Step):(ap x s).1.length=x.1.length:=by cases s <;> simp[ap,xa]
theorem step_mk(d:DD)(zW:d.on=true)(hf:0≤d.qz)(hr:(d.n:Int)≤d.room)(s:Step)(hs:fL d.n s) :
    jt d s=if d.qz=1 then(6,mk d (d.base,d.more) false 0)else(0,mk d (ap (d.base,d.more) s) true (less d.qz 1)):=by
 have hop:d.oper=if d.qz=1 then mk d (d.base,d.more) false 0 else mk d (d.base,d.more) true (less d.qz 1):=by
  unfold DD.oper less;by_cases h1:d.qz=1
  ·rw[if_pos h1,if_pos h1];rfl
  ·rw[if_neg h1,if_neg h1];by_cases h2:1<d.qz
   ·rw[if_pos h2,if_neg (by omega)];unfold mk;rw[← zW];rfl
   ·have h0:d.qz=0:=by omega
    rw[if_neg h2,if_pos h0];obtain⟨r,b,m,o,f⟩:=d;simp only at zW h0;subst zW h0;rfl
 cases s with
 | w k v =>
  obtain⟨h0,h1,h2⟩:=hs;unfold jt DD.write;dsimp only;have hh:d.has k=true:=by simp[DD.has,h0,h1]
  rw[if_neg (by rw[zW];simp),if_neg (by rw[hh];simp[h2])];have hfull:¬ ((dk.look d.now k).isSome=false∧d.room≤(d.used:Int)):=by
   rintro⟨g1,g2⟩;obtain⟨j,rfl⟩:=Int.eq_ofNat_of_zero_le h0;have:=qrf d.now j (by rw[d.yY];omega) g1;rw[d.yY]at this;unfold DD.used at g2;omega
  rw[if_neg hfull,hop];by_cases h1:d.qz=1
  ·rw[if_pos h1,if_pos h1,if_pos (by rfl)]
  ·rw[if_neg h1,if_neg h1,if_neg (by simp[mk])];rfl
 | f =>
  unfold jt DD.flush;dsimp only;rw[if_neg (by rw[zW];simp),hop];by_cases h1:d.qz=1
  ·rw[if_pos h1,if_pos h1,if_pos (by rfl)]
  ·rw[if_neg h1,if_neg h1,if_neg (by simp[mk])];rfl
theorem bF:∀(ss:List Step) (d:DD),d.on=true→0≤d.qz→(d.n:Int)≤d.room→(∀s∈ss,fL d.n s)→(d.qz=0∨(ss.length:Int)<d.qz) →
    gq ss d=(0,mk d (apL ss (d.base,d.more)) true (less d.qz ss.length))
 | [],d,zW,hf,hr,hs,h=>by
  have e:less d.qz 0=d.qz:=by unfold less;split <;> omega
  have e2:mk d (d.base,d.more) true d.qz=d:=by
   obtain⟨r,b,m,o,f⟩:=d;simp only at zW;subst zW;rfl
  show(0,d)=_;rw[List.length_nil,e];exact congrArg (Prod.mk 0) e2.symm
 | s::r,d,zW,hf,hr,hs,h=>by
  have h1:¬ d.qz=1:=by simp only[List.length_cons]at h;omega
  have hst:=step_mk d zW hf hr s (hs s (by simp));rw[if_neg h1]at hst;unfold gq;rw[hst];dsimp only;rw[if_pos rfl];have hf':0≤less d.qz 1:=by unfold less;split <;> omega
  have hfe:less d.qz 1=0∨(r.length:Int)<less d.qz 1:=by
   simp only[List.length_cons]at h;unfold less;split <;> omega
  have hn:(mk d (ap (d.base,d.more) s) true (less d.qz 1)).n=d.n:=qvu _ _;rw[bF r (mk d (ap (d.base,d.more) s) true (less d.qz 1)) rfl hf' (by rw[hn];exact hr) (fun x hx=>by rw[hn];exact hs x (by simp[hx])) hfe];have e:less (less d.qz 1) r.length=less d.qz (s::r).length:=by
   simp only[List.length_cons]at h ⊢;unfold less;split
   ·simp
   ·split <;> omega
  show(0,mk d (apL r (ap (d.base,d.more) s)) true (less (less d.qz 1) r.length))=_;rw[e];rfl
theorem lO:∀(ss:List Step) (d:DD),d.on=true→(d.n:Int)≤d.room→(∀s∈ss,fL d.n s)→1≤d.qz→d.qz≤(ss.length:Int) →
    gq ss d=(6,mk d (apL (ss.take (d.qz-1).toNat) (d.base,d.more)) false 0)
 | [],d,zW,hr,hs,h1,h=>by simp at h;omega
 | s::r,d,zW,hr,hs,h1,h=>by
  have hst:=step_mk d zW (by omega) hr s (hs s (by simp));unfold gq;rw[hst];by_cases hf:d.qz=1
  ·rw[if_pos hf];dsimp only;rw[if_neg (by decide),hf];rfl
  ·rw[if_neg hf];dsimp only;rw[if_pos rfl];have e:less d.qz 1=d.qz-1:=by unfold less;rw[if_neg (by omega)];rfl
   have hn:(mk d (ap (d.base,d.more) s) true (less d.qz 1)).n=d.n:=qvu _ _;simp only[List.length_cons]at h;have hmf:(mk d (ap (d.base,d.more) s) true (less d.qz 1)).qz=d.qz-1:=e;rw[lO r (mk d (ap (d.base,d.more) s) true (less d.qz 1)) rfl (by rw[hn];exact hr) (fun x hx=>by rw[hn];exact hs x (by simp[hx])) (by omega) (by omega)];rw[hmf];have e2:(d.qz-1).toNat=(d.qz-1-1).toNat+1:=by omega
   rw[e2,List.take_succ_cons];rfl
theorem aw (a b:List Step)(x:BM):apL (a++b) x=apL b (apL a x):=List.foldl_append
theorem qde:∀(l:List Wr) (x:BM),apL (jo l) x=(x.1,x.2++nat l)
 | [],x=>by simp[jo,nat,apL]
 | w::l,x=>by
  have ih:=qde l (ap x (.w w.1 w.2));show apL (jo l) (ap x (.w w.1 w.2))=_;rw[ih];simp[ap,nat]
theorem qgn(l:List Wr)(m:Nat):(jo l).take m=jo (l.take m):=by simp[jo,List.map_take]
theorem gy (l:List Wr):(jo l).length=l.length:=by simp[jo]
theorem pB (l:List Wr)(b:qE):apL (jo l++[.f]) (b,[])=(qQ b (nat l),[]):=by
 rw[aw,qde];rfl
theorem dz:∀(bs:List (List Wr)) (b:qE),apL (qC bs) (b,[])=(qQ b (nat bs.flatten),[])
 | [],b=>rfl
 | l::r,b=>by
  have h:qC (l::r)=(jo l++[.f])++qC r:=by simp[qC]
  rw[h,aw,pB,dz r];rw[List.flatten_cons,show nat (l++r.flatten)=nat l++nat r.flatten from List.map_append,jd]
theorem lQ:∀(bs:List (List Wr)) (m:Nat) (b:qE),m≤(qC bs).length →
    ∃(pre:List (List Wr)) (l post:_) (j:Nat),bs=pre++l++post∧(l=[]∨∃y,l=[y])∧apL ((qC bs).take m) (b,[])=(qQ b (nat pre.flatten),nat (l.flatten.take j))
 | [],m,b,h=>⟨[],[],[],0,rfl,.inl rfl,by simp[qC,apL,nat,qQ]⟩
 | x::r,m,b,h=>by
  have hs:qC (x::r)=(jo x++[.f])++qC r:=by simp[qC]
  by_cases hm:m≤x.length
  ·refine⟨[],[x],r,m,by simp,.inr ⟨x,rfl⟩,?_⟩;rw[hs,List.take_append_of_le_length (by simp[gy];omega),List.take_append_of_le_length (by rw[gy];exact hm),qgn,qde];simp[nat,qQ]
  ·have hl:(jo x++[Step.f]).length=x.length+1:=by simp[gy]
   have e:(qC (x::r)).take m=(jo x++[.f])++(qC r).take (m-(x.length+1)):=by
    rw[hs,List.take_append,hl,List.take_of_length_le (by rw[hl];omega)]
   rw[hs,List.length_append,hl]at h;obtain⟨pre,l,post,j,h1,h2,h3⟩:=lQ r (m-(x.length+1)) (qQ b (nat x)) (by omega);refine⟨x::pre,l,post,j,by simp[h1],h2,?_⟩;rw[e,aw,pB,h3];rw[List.flatten_cons,show nat (x++pre.flatten)=nat x++nat pre.flatten from List.map_append,jd]
def uq (N:Nat)(b:qE)(a c:Nat)(l:List Wr):Prop:=(c=0∧l=[])∨(c≠0∧gu b a c=some l∧uG N l=true)
def RB (N:Nat)(tgt:Int→Bt)(b:qE):Prop :=
 b.length=N∧(∀v,some v∈b→v.length=32)∧∃a c l,dL (rd b 0)=some (a,c)∧uq N b a c l∧∀k,145≤k→rd (qQ b (nat l)) k=tgt k
def JB (N:Nat)(tgt:Int→Bt)(b:qE):Prop:=RB N tgt b∧∀k,145≤k→rd b k=tgt k
structure RJ(N:Nat)(tgt:Int→Bt)(d:DD):Prop where
 on:d.on=true
 more:d.more=[]
 room:(N:Int)≤d.room
 rb:RB N tgt d.base
structure JJ(N:Nat)(tgt:Int→Bt)(d:DD):Prop extends RJ N tgt d where
 is:∀k,145≤k→rd d.base k=tgt k
theorem gz {N:Nat}{l:List Wr}(h:uG N l=true):∀x∈l,145≤x.1∧x.1<(N:Int)∧x.2.length=32:=by
 intro x hx;unfold uG at h;simp only[Bool.and_eq_true]at h;have:=List.all_eq_true.1 h.1 x hx;simpa[okW,and_assoc]using this
theorem je (l:List (Nat × Bt))(s:qE)(k:Int)(h:∀x∈l,(x.1:Int)≠k):rd (qQ s l) k=rd s k:=by
 unfold rd;rw[xd l s k h]
theorem vM {l:List Wr}{x:Nat × Bt}(h:x∈nat l):∃y∈l,x=(y.1.toNat,y.2):=by
 obtain⟨y,hy,rfl⟩:=List.mem_map.1 h;exact⟨y,hy,rfl⟩
theorem qjB{N:Nat}{l:List Wr}(h:∀x∈l,145≤x.1∧x.1<(N:Int)∧x.2.length=32):∀x∈nat l,145≤x.1∧x.1<N∧x.2.length=32:=by
 intro x hx;obtain⟨y,hy,rfl⟩:=vM hx;have:=h y hy;exact⟨by dsimp only;omega,by dsimp only;omega,this.2.2⟩
theorem ot {s s':qE}{a c:Nat}(h:∀i,i<c→rd s ((1+a*72+i:Nat):Int)=rd s' ((1+a*72+i:Nat):Int)):zL s a c=zL s' a c :=
 List.map_congr_left fun i hi=>h i (List.mem_range.1 hi)
theorem qaR{s s':qE}{a c:Nat}(h:∀i,i<c→rd s ((1+a*72+i:Nat):Int)=rd s' ((1+a*72+i:Nat):Int)):gu s a c=gu s' a c:=by
 unfold gu;rw[ot h]
theorem bG {N:Nat}{b:qE}{a c:Nat}{l:List Wr}(h:uq N b a c l):∀x∈l,145≤x.1∧x.1<(N:Int)∧x.2.length=32:=by
 rcases h with⟨_,rfl⟩|⟨_,_,h⟩
 ·intro x hx;cases hx
 ·exact gz h
theorem bH {N:Nat}{b:qE}{a c:Nat}{l:List Wr}(h:uq N b a c l)(y:List (Nat × Bt))(hy:∀x∈y,∀i,i<c→x.1≠1+a*72+i):uq N (qQ b y) a c l:=by
 rcases h with h|⟨h1,h2,h3⟩
 ·exact .inl h
 ·refine .inr ⟨h1,?_,h3⟩;rw[← h2];exact qaR fun i hi=>je _ _ _ fun x hx=>by have:=hy x hx i hi;omega
theorem RB.part{N:Nat}{tgt:Int→Bt}{b:qE}(h1:b.length=N)(h2:∀v,some v∈b→v.length=32){a c:Nat}{l:List Wr}(hh:dL (rd b 0)=some (a,c))(hg:uq N b a c l)(ht:∀k,145≤k→rd (qQ b (nat l)) k=tgt k)
    (y:List (Nat × Bt)) (hy:∀x∈y,x∈nat l):RB N tgt (qQ b y):=by
 have hp:=qjB (bG hg);obtain⟨ha,hc,_⟩:=kx hh;refine⟨by rw[xa];exact h1,wT h2 (fun x hx=>(hp x (hy x hx)).2.2),a,c,l,?_,bH hg y (fun x hx i hi=>?_),fun k hk=>?_⟩
 ·rw[je _ _ _ (fun x hx=>?_)]
  ·exact hh
  ·have:=hp x (hy x hx);omega
 ·have:=hp x (hy x hx);have:a*72≤72:=by omega
  omega
 ·rw[← ht k hk];unfold rd;rw[qgl (nat l) y b k hy (fun x hx=>by have:=hp x hx;omega)]
theorem RB.whole{N:Nat}{tgt:Int→Bt}{b:qE}(h1:b.length=N)(h2:∀v,some v∈b→v.length=32){a c:Nat}{l:List Wr}(hh:dL (rd b 0)=some (a,c))(hg:uq N b a c l)(ht:∀k,145≤k→rd (qQ b (nat l)) k=tgt k):JB N tgt (qQ b (nat l)) :=
 ⟨RB.part h1 h2 hh hg ht (nat l) (fun _ h=>h),ht⟩
theorem qnt{N:Nat}{l:List Wr}(h:∀x∈l,0≤x.1∧x.1<(N:Int)∧x.2.length=32):∀s∈jo l,fL N s:=by
 intro s hs;obtain⟨x,hx,rfl⟩:=List.mem_map.1 hs;exact h x hx
theorem vN {N:Nat}:∀ {bs:List (List Wr)},(∀l∈bs,∀x∈l,0≤x.1∧x.1<(N:Int)∧x.2.length=32)→∀s∈qC bs,fL N s
 | [],_,s,hs=>by cases hs
 | l::r,h,s,hs=>by
  have e:qC (l::r)=jo l++(.f::qC r):=rfl;rw[e,List.mem_append,List.mem_cons]at hs;rcases hs with hs|rfl|hs
  ·exact qnt (h l (by simp)) s hs
  ·trivial
  ·exact vN (fun l hl=>h l (by simp[hl])) s hs
theorem qeL(d:DD)(x:BM)(f:Int)(keep:List Bool):(mk d x false f).qvl keep=mk d (qQ x.1 (stay x.2 keep),[]) true f:=rfl
def qrg (P:DD→Prop)(d:DD):Prop:=d.on=false∧∀keep,P (d.qvl keep)
theorem qaS{N:Nat}{tgt:Int→Bt}{d:DD}(h:RJ N tgt d)(hf:0≤d.qz) :
    ((zX d).1=0∧JJ N tgt (zX d).2∧(d.qz=0→(zX d).2.qz=0)∧0≤(zX d).2.qz)∨((zX d).1=6∧qrg (RJ N tgt) (zX d).2∧d.qz≠0∧(zX d).2.qz=0):=by
 obtain⟨zW,hmo,hro,h1,h2,a,c,l,hh,hg,ht⟩:=h;have qjC:d.now=d.base:=by unfold DD.now;rw[hmo];rfl
 have hn:d.n=N:=h1;unfold zX;rw[if_neg (by rw[zW];simp),qjC,hh];dsimp only;by_cases hc:c=0
 ·rw[if_pos hc]
  left
  refine⟨rfl,⟨⟨zW,hmo,hro,h1,h2,a,c,l,hh,hg,ht⟩,fun k hk=>?_⟩,fun h=>h,hf⟩;rcases hg with⟨_,rfl⟩|⟨h',_⟩
  ·exact ht k hk
  ·exact absurd hc h'
 ·rw[if_neg hc];rcases hg with⟨h',_⟩|⟨_,hr,hp⟩
  ·exact absurd h' hc
  have hg':uq N d.base a c l:=.inr ⟨hc,hr,hp⟩;rw[hr];dsimp only;rw[hn,if_neg (by rw[hp];simp)];have tQ:∀s∈qC [l],fL d.n s:=by
   rw[hn];refine vN fun m hm x hx=>?_;obtain rfl:m=l:=by simpa using hm
   have:=gz hp x hx;exact⟨by omega,this.2⟩
  by_cases hfu:d.qz=0∨((qC [l]).length:Int)<d.qz
  ·left
   rw[bF _ d zW hf (by rw[hn];exact hro) tQ hfu,hmo,dz];have hw:=RB.whole h1 h2 hh hg' ht;refine⟨rfl,⟨⟨rfl,rfl,hro,?_⟩,?_⟩,fun h0=>?_,?_⟩
   ·show RB N tgt (qQ d.base (nat [l].flatten));simpa using hw.1
   ·show ∀k,145≤k→rd (qQ d.base (nat [l].flatten)) k=tgt k;simpa using hw.2
   ·show less d.qz _=0;unfold less;rw[if_pos h0]
   ·show 0≤less d.qz _;unfold less;split <;> omega
  ·right
   have h0:d.qz≠0:=fun h=>hfu (.inl h);rw[lO _ d zW (by rw[hn];exact hro) tQ (by omega) (by omega),hmo];obtain⟨pre,q,post,j,e1,e2,e3⟩:=lQ [l] (d.qz-1).toNat d.base (by omega);rw[e3];refine⟨rfl,⟨rfl,fun keep=>?_⟩,h0,rfl⟩;rw[qeL];have key:∃y,(∀x∈y,x∈nat l)∧qQ (qQ d.base (nat pre.flatten)) (stay (nat (q.flatten.take j)) keep)=qQ d.base y:=by
    refine⟨nat pre.flatten++stay (nat (q.flatten.take j)) keep,fun x hx=>?_,by rw[jd]⟩;have qaT:∀z∈pre.flatten++q.flatten,z∈l:=by
     intro z hz;have:z∈[l].flatten:=by rw[e1,List.flatten_append,List.flatten_append];exact List.mem_append_left _ hz
     simpa using this
    rcases List.mem_append.1 hx with hx|hx
    ·obtain⟨z,hz,rfl⟩:=vM hx;exact List.mem_map.2 ⟨z,qaT z (List.mem_append_left _ hz),rfl⟩
    ·obtain⟨z,hz,rfl⟩:=vM (lz _ _ _ hx);exact List.mem_map.2 ⟨z,qaT z (List.mem_append_right _ (List.mem_of_mem_take hz)),rfl⟩
   obtain⟨y,hy,e4⟩:=key;refine⟨rfl,rfl,hro,?_⟩;show RB N tgt (qQ (qQ d.base (nat pre.flatten)) (stay (nat (q.flatten.take j)) keep));rw[e4];exact RB.part h1 h2 hh hg' ht y hy
end Go.Proofs.YtdpbdkacngaemaaGreatDoor.jr

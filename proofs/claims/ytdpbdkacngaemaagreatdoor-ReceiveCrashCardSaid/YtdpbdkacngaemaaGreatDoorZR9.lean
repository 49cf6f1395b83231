/- VgTb2, VgTb4, VgApi1, VgPlc, VgWri, VgHF, VgOff, VgTok, Step, JWrites, JKept, JAlike, JReady, JWorks, JAllP, JTwiceP, JKnP, JKnC, VgOpn, DkApp2, DkCopy, DkCopy2, VgFmt, VgSnp, VgRol. -/
import Derived.Test.YtdpbdkacngaemaaGreatDoorZR8
import Derived.Deep.RegionLawGrows
import Derived.Shelf.SlMaps.Clone
import Derived.Laws.Cover3
set_option linter.unusedVariables false
set_option linter.unusedSimpArgs false
set_option maxHeartbeats 30000000
set_option maxRecDepth 100000
namespace Go.Proofs.YtdpbdkacngaemaaGreatDoor.vt.pg
open _root_.Go.Proofs.Tryz Go Go.RowKit ib mt im sp
theorem qk1{w:World}{gb:Nat}(a b:Nat)(B:Option Addr)(n c:Nat)(hd:Bool)(g:Gd)(hgb:gb<w.heap.size)(q0:w.cell? ⟨gb,0,none⟩=some (.int .u64 (g.1:Int)))(q1:w.cell? ⟨gb,1,none⟩=some (.int .u64 (g.2:Int))) :
    Calls prog 172 #[.agg #[.int .u64 (a:Int),.int .u64 (b:Int),.slice B n c,.bool hd],pt gb] w fun e w'=>e=.returned (.bool (decide ((a,b)=g)))∧Below w.heap.size w w':=by
 obtain⟨g1,g2⟩:=g;have hb0:=(Below.refl w.heap.size w).alloc (Nat.le_refl _) (.cells #[.int .u64 (a:Int),.int .u64 (b:Int),.slice B n c,.bool hd] 141);have p0:=(hb0.cell (p:=⟨gb,0,none⟩) hgb).trans q0;have p1:=(hb0.cell (p:=⟨gb,1,none⟩) hgb).trans q1;have HB:=QH hb0;have hq:decide ((a,b)=(g1,g2))=(((a:Int) == (g1:Int))&&((b:Int) == (g2:Int))):=by
  rw[Bool.eq_iff_iff];simp only[decide_eq_true_eq,Bool.and_eq_true,beq_iff_eq,Prod.mk.injEq];omega
 obtain⟨r,hr⟩:=QE (decide ((a,b)=(g1,g2)));rw[hr]at hq ⊢;dsimp only at p0 p1 q0 q1;generalize (a:Int)=x1 at *;generalize (b:Int)=x2 at *;generalize (g1:Int)=y1 at *;generalize (g2:Int)=y2 at *;obtain⟨b1,hb1⟩:=QE (x1 == y1);obtain⟨b2,hb2⟩:=QE (x2 == y2);rw[hb1,hb2]at hq;subst hq;clear hb0 hr;cases b1 <;> cases b2;all_goals
  go_enter func172,ntmps172;go_wp2_with fail;go_ret;exact⟨rfl,HB.out⟩
def sL (l:List Sp)(g:Gd):Int:=match l.findIdx? fun s=>decide (s.g=g)with
 | none=>-1
 | some i=>(i:Int)
theorem qk2{l:List Sp}{g:Gd}{k:Nat}(hk:k<l.length)(hg:l[k].g=g)(hb:∀j (h:j<l.length),j<k→l[j].g≠g):sL l g=(k:Int):=by
 unfold sL;have:(l.findIdx? fun s=>decide (s.g=g))=some k:=by
  rw[List.findIdx?_eq_some_iff_getElem];exact⟨hk,by simpa using hg,fun j hj=>by simpa using hb j (by omega) hj⟩
 rw[this]
theorem qk3{l:List Sp}{g:Gd}(hb:∀j (h:j<l.length),l[j].g≠g):sL l g = -1:=by
 unfold sL;have:(l.findIdx? fun s=>decide (s.g=g))=none:=by
  rw[List.findIdx?_eq_none_iff];intro s hs;obtain⟨j,hj,rfl⟩:=List.getElem_of_mem hs;simpa using hb j hj
 rw[this]
def IxS (l:List Sp)(g:Gd)(w:World)(i:Value)(wr:World):Prop :=
 ∃k:Nat,k≤l.length∧i=.int .i64 (k:Int)∧(∀j (h:j<l.length),j<k→l[j].g≠g)∧Below w.heap.size w wr
theorem qoP{w:World}{gb:Nat}{A:Option Addr}{c:Nat}{l:List Sp}(hS:jN w A l)(h20:l.length≤1000)(g:Gd)(hgb:gb<w.heap.size)(q0:w.cell? ⟨gb,0,none⟩=some (.int .u64 (g.1:Int)))(q1:w.cell? ⟨gb,1,none⟩=some (.int .u64 (g.2:Int))) :
    Calls prog 171 #[.slice A l.length c,.func (.func 172) #[] #[pt gb]] w fun e w'=>e=.returned (.int .i64 (sL l g))∧Below w.heap.size w w':=by
 have HS:=QH hS;have HQ0:=QH q0;have HQ1:=QH q1;have na:=QH (fun k hk hg hb=>qk2 (l:=l) (g:=g) (k:=k) hk hg hb);have HRN:=QH (fun hb=>qk3 (l:=l) (g:=g) hb);obtain⟨R,hR⟩:=QE (sL l g);rw[hR]at na HRN ⊢;clear hS q0 q1 hR;go_enter func171,ntmps171;go_wp2_with fail;go_loopw [8] (fun i wr=>IxS l g w i wr) (fun i _=>l.length-(intOf i).toNat);case atStart=>exact⟨0,Nat.zero_le _,rfl,fun j _ h=>absurd h (by omega),Below.refl _ _⟩
 case round =>
  obtain⟨k,hk,rfl,hno,hB⟩:=hrel;have jZ:=QH hno;have HB:=QH hB;clear hno hB;by_cases hlt:k<l.length
  ·have yr:(k:Int)<(l.length:Int):=by omega
   obtain⟨b,o,B,cc,rfl,s1,s2,s3,s4,s5,_⟩:=(HS.out.below HB.out) k hlt;have HYE:=QH (fun(e:l[k].g=g)=>na.out k hlt e jZ.out);have ia:Hid (l[k].g≠g→∀j (h:j<l.length),j<k+1→l[j].g≠g):=fun hne j hj hjk=>by
    by_cases qom:j<k
    ·exact jZ.out j hj qom
    ·obtain rfl:j=k:=by omega
     exact hne
   obtain⟨ga,gb',hd,n,hgd,hn,hh⟩:∃a b' hd n,l[k].g=(a,b')∧l[k].qu.length=n∧l[k].hid=hd:=⟨_,_,_,_,rfl,rfl,rfl⟩;have kK:=QH (qk1 ga gb' B n cc hd g (w:=wr) (Nat.lt_of_lt_of_le hgb HB.out.size) ((HB.out.cell (p:=⟨gb,0,none⟩) hgb).trans HQ0.out) ((HB.out.cell (p:=⟨gb,1,none⟩) hgb).trans HQ1.out));rw[hgd]at s2 s3 HYE ia;rw[hn]at s4;rw[hh]at s5;dsimp only at s2 s3;have hk0:¬ (k:Int)<0:=by omega
   clear hgd hn hh;go_wp2_with fail;refine kK.out.mono ?_;rintro e W1 ⟨rfl,hb1⟩;have qT:=QH (HB.out.trans (hb1.mono HB.out.size));clear hb1;by_cases hg:(ga,gb')=g
   ·rw[decide_eq_true hg];have HR:=QH (HYE.out hg);clear hg HYE ia kK;go_wp2_with fail;go_ret;rw[HR.out];exact⟨rfl,qT.out⟩
   ·rw[decide_eq_false hg];have HN:=QH (ia.out hg);clear hg HYE ia kK;go_wp2_with fail;go_roundw;case rel=>exact⟨k+1,by omega,by go_num,HN.out,qT.out⟩
    case measure=>simp[intOf];omega
  ·have yr:¬ (k:Int)<(l.length:Int):=by omega
   have HR:=QH (HRN.out (fun j hj=>jZ.out j hj (by omega)));go_wp2_with fail;go_ret;rw[HR.out];exact⟨rfl,HB.out⟩
def vG (m:Mt)(g:Gd):Int × Int:=match tX m g with
 | none=>(0,5)
 | some i=>match m.qc[i]? with
  | none=>(0,5)
  | some s=>if s.hid then(0,14)else((i:Int),0)
theorem qk4(m:Mt)(g:Gd):(sL m.qc g = -1∧vG m g=(0,5))∨∃i,∃h:i<m.qc.length,sL m.qc g=((i:Nat):Int)∧vG m g=if m.qc[i].hid then(0,14)else((i:Int),0):=by
 unfold sL vG tX;cases hf:m.qc.findIdx? fun s=>decide (s.g=g)with
 | none=>exact .inl ⟨rfl,rfl⟩
 | some i =>
  have hi:=(List.findIdx?_eq_some_iff_getElem.1 hf).1;refine .inr ⟨i,hi,rfl,?_⟩;show(match m.qc[i]? with
   | none=>((0:Int),(5:Int))
   | some s=>if s.hid then(0,14)else((i:Int),0))=_
  rw[List.getElem?_eq_getElem hi]
theorem uW {w:World}{A0 A1 A2:Option Addr}{c0 c1 c2:Nat}{m:Mt}(hS:jN w A1 m.qc)(h20:m.qc.length≤1000)(g:Gd) :
    Calls prog 99 #[.agg (zJ A0 A1 A2 c0 c1 c2 m),gv g] w fun e w'=>e=.returned (.tuple #[.int .i64 (vG m g).1,.int .i64 (vG m g).2])∧Below w.heap.size w w':=by
 obtain⟨g1,g2⟩:=g;obtain⟨W1,hW1,zX,hb1⟩:=xZ w (zJ A0 A1 A2 c0 c1 c2 m);have hb2:=(Below.refl _ W1).alloc (Nat.le_refl _) (.cells #[.int .u64 (g1:Int),.int .u64 (g2:Int)] 38);have hr2:=qd.new W1 38 #[.int .u64 (g1:Int),.int .u64 (g2:Int)];obtain⟨W2,hW2⟩:=QE (W1.alloc (.cells #[.int .u64 (g1:Int),.int .u64 (g2:Int)] 38));rw[hW2]at hb2 hr2;have qC:=QH (qa hb1 hb2);have hk2:=zX.below hb2;have uR:=QH hk2;have q1:=hk2.cell 1;have lS:=hk2.lt;simp only[zJ,QA,QB,QC]at q1;have HS:=QH (hS.below qC.out);have HI:=QH (qoP (c:=c1) HS.out h20 (g1,g2) hr2.lt (hr2.cell 0) (hr2.cell 1));have HFI:=QH (qk4 m (g1,g2));obtain⟨R,hR⟩:=QE (vG m (g1,g2));rw[hR]at HFI ⊢;obtain⟨X,hX⟩:=QE (sL m.qc (g1,g2));rw[hX]at HFI HI;clear hS zX hb1 hb2 hr2 hk2 hR hX;show Calls _ _ #[.agg (zJ A0 A1 A2 c0 c1 c2 m),.agg #[.int .u64 (g1:Int),.int .u64 (g2:Int)]] _ _;unfold zJ at hW1 ⊢;go_enter func99,ntmps99;go_upto_region 1 with fail;try rw[hW1]
 try rw[hW2]
 clear hW1 hW2;go_wp2_with fail;refine HI.out.mono ?_;rintro e W3 ⟨rfl,hb3⟩;have zB:=QH (qa qC.out hb3);have mO:=QH (HS.out.below hb3);have hk3:=uR.out.below hb3;have q1:=hk3.cell 1;have lS:=hk3.lt;simp only[zJ,QA,QB,QC]at q1;clear hb3 hk3 HI uR HS;rcases HFI.out with⟨rfl,hf⟩|⟨i,gP,rfl,hf⟩
 ·have HF:=QH hf;clear hf HFI;go_wp2_with fail;go_ret2;rw[HF.out];exact⟨rfl,zB.out⟩
 ·have HF:=QH hf;obtain⟨b,o,B,cc,rfl,s1,s2,s3,s4,s5,_⟩:=mO.out i gP;have hii:(i:Int)<(m.qc.length:Int):=by omega
  have hin:¬ (i:Int)<0:=by omega
  generalize m.qc[i].hid=hd at *;clear hf HFI s2 s3 s4;cases hd with
  | true =>
   have HF2:Hid (R=(0,14)):=by unfold Hid;simpa using HF.out
   go_wp2_with fail;go_ret2;rw[HF2.out];exact⟨rfl,zB.out⟩
  | false =>
   have HF2:Hid (R=((i:Int),0)):=by unfold Hid;simpa using HF.out
   go_wp2_with fail;go_ret2;rw[HF2.out];exact⟨rfl,zB.out⟩
end Go.Proofs.YtdpbdkacngaemaaGreatDoor.vt.pg
namespace Go.Proofs.YtdpbdkacngaemaaGreatDoor.vt.pg
open _root_.Go.Proofs.Tryz Go Go.RowKit Go.Sort ib mt im sp
theorem vU:prog.follows .mixedOrders=true:=by kernel_rfl
def TkR (b:Nat)(x:List (Int × Bt))(w:World)(l i:Value)(wr:World):Prop :=
 ∃(k:Nat) (p:Int),k≤x.length∧i=.int .i64 (k:Int)∧l=.int .i64 (p+1) ∧ -1≤p∧p≤1000∧xC b (-1) x=xC b p (x.drop k)∧Below w.heap.size w wr
theorem qgG{b:Nat}{p:Int}{x:List (Int × Bt)}{k:Nat}(h:k<x.length):xC b p (x.drop k)=(decide (p<x[k].1)&&decide (x[k].1<(b:Int))&&decide (x[k].2.length=32)&&xC b x[k].1 (x.drop (k+1))):=by
 rw[List.drop_eq_getElem_cons h];rfl
theorem qoQ{b:Nat}{p k:Int}{s:Bt}{r:Bool}(h:k<p+1∨(b:Int)≤k∨s.length≠32):(decide (p<k)&&decide (k<(b:Int))&&decide (s.length=32)&&r)=false:=by
 rcases h with h|h|h
 ·rw[decide_eq_false (by omega:¬ p<k)];rfl
 ·rw[decide_eq_false (by omega:¬ k<(b:Int))];simp
 ·rw[decide_eq_false h];simp
theorem qk5{b:Nat}{p k:Int}{s:Bt}{r:Bool}(h1:¬ k<p+1)(h2:¬ (b:Int)≤k)(h3:s.length=32):(decide (p<k)&&decide (k<(b:Int))&&decide (s.length=32)&&r)=r:=by
 rw[decide_eq_true (by omega:p<k),decide_eq_true (by omega:k<(b:Int)),decide_eq_true h3];simp
theorem l9 {w:World}{A0 A1 A2:Option Addr}{c0 c1 c2:Nat}{m:Mt}(hb8:m.live.length≤1000){A:Option Addr}{c:Nat}{x:List (Int × Bt)}(hx:ch.kR w A x)(eH:x.length≤1000) :
    Calls prog 61 #[.agg (zJ A0 A1 A2 c0 c1 c2 m),.slice A x.length c] w (uE (xC m.live.length (-1) x) w):=by
 obtain⟨W1,hW1,zX,hb1⟩:=xZ w (zJ A0 A1 A2 c0 c1 c2 m);have bA:=QH zX;have qT:=QH hb1;have HX:=QH (hx.below hb1);obtain⟨R,hR⟩:=QE (xC m.live.length (-1) x);have fX:=QH hR;rw[hR];clear hx zX hb1 hR;unfold zJ at hW1 ⊢;go_enter func61,ntmps61;go_upto_region 1 with fail;try rw[hW1]
 clear hW1;go_wp2_with fail;go_loopw [5,10] (fun l i wr=>TkR m.live.length x W1 l i wr) (fun _ i _=>x.length-(intOf i).toNat);case atStart=>exact⟨0,-1,Nat.zero_le _,rfl,rfl,by omega,by omega,rfl,Below.refl _ _⟩
 case round =>
  obtain⟨k,p,hk,rfl,rfl,hp1,hp2,hch,hB⟩:=hrel;have HB:=QH hB;have HCH:=QH hch;have nS:=QH hp1;clear hB hch;by_cases hlt:k<x.length
  ·have yr:(k:Int)<(x.length:Int):=by omega
   have hk0:¬ (k:Int)<0:=by omega
   obtain⟨b,o,rfl,s1,s2,s3,s4⟩:=(HX.out.below HB.out) k hlt;have HST:=QH (qgG (b:=m.live.length) (p:=p) hlt);obtain⟨xk,hxk⟩:=QE (x[k].1);obtain⟨sk,hsk⟩:=QE (x[k].2);rw[hxk,hsk]at HST;rw[hxk]at s2 s4;rw[hsk]at s3;obtain⟨S,hS⟩:=QE (str sk);have hSl:S.size=sk.length:=by rw[← hS,qQ]
   rw[hS]at s3;have ig:=QH hSl;obtain⟨L,hL⟩:=QE (p+1);have lT:=QH hL;rw[hL];have vq:=(Below.refl _ wr).alloc (Nat.le_refl _) (.cells #[.int .i64 xk,.string S] 122);have HBX:=QH (qa HB.out vq);have hq:=bA.out.below HBX.out;have q0:=hq.cell 0;have lS:=hq.lt;simp only[zJ,List.getElem?_toArray,List.getElem?_cons_zero]at q0;have mQ:=QH s4;clear hxk hsk hS hSl hL hq vq s4 hp1 hp2;have no:xk<p+1∨(m.live.length:Int)≤xk∨sk.length≠32→R=false:=fun h=>by rw[← fX.out,HCH.out,HST.out,qoQ h]
   have jZ:=QH no;clear no;by_cases h1:xk<L
   ·have HF:=QH (jZ.out (.inl (by rw[lT.out];exact h1)));go_wp2_with fail;go_ret;exact⟨by rw[HF.out];rfl,qa qT.out HBX.out⟩
   ·by_cases h2:(m.live.length:Int)≤xk
    ·have HF:=QH (jZ.out (.inr (.inl h2)));go_wp2_with fail;go_ret;exact⟨by rw[HF.out];rfl,qa qT.out HBX.out⟩
    ·by_cases h3:(S.size:Int)=32
     ·have h3b:((S.size:Int) != 32)=false:=by rw[h3];rfl
      have h3n:sk.length=32:=by have:=ig.out;omega
      have HYE:Hid (xC m.live.length (-1) x=xC m.live.length xk (x.drop (k+1))):=by unfold Hid;rw[HCH.out,HST.out,qk5 (by rw[lT.out];exact h1) h2 h3n]
      have hx1:¬ xk<p+1:=by rw[lT.out];exact h1
      have hxr : -9223372036854775808≤xk∧xk≤9223372036854775807:=mQ.out;have hw:IntKind.i64.wrap (xk+1)=xk+1:=by rw[IntWalk.i64_in _ (by omega)]
      have HPR:Hid (-1≤xk∧xk≤1000):=by have:=nS.out;unfold Hid;omega
      clear h3 h3n HST HCH jZ hx1 hxr lT;go_wp2_with fail;go_roundw;case rel=>exact⟨k+1,xk,by omega,by go_num,rfl,HPR.out.1,HPR.out.2,HYE.out,HBX.out⟩
      case measure=>simp[intOf];omega
     ·have h3b:((S.size:Int) != 32)=true:=by simpa using h3
      have HF:=QH (jZ.out (.inr (.inr (by have:=ig.out;omega))));clear h3;go_wp2_with fail;go_ret;exact⟨by rw[HF.out];rfl,qa qT.out HBX.out⟩
  ·have yr:¬ (k:Int)<(x.length:Int):=by omega
   have HF:Hid (R=true):=by unfold Hid;rw[← fX.out,HCH.out,List.drop_eq_nil_of_le (by omega)];rfl
   go_wp2_with fail;go_ret;exact⟨by rw[HF.out];rfl,qa qT.out HB.out⟩
theorem qgH{w:World}{A0 A1 A2:Option Addr}{c0 c1 c2:Nat}{m:Mt}(hS:jN w A1 m.qc)(h20:m.qc.length≤1000)(g:Gd) :
    Calls prog 229 #[.agg (zJ A0 A1 A2 c0 c1 c2 m),gv g] w (bT (if above g (qI m)=false then 2 else if 20≤m.qc.length then 3 else 0) w):=by
 obtain⟨g1,g2⟩:=g;obtain⟨W1,hW1,zX,hb1⟩:=xZ w (zJ A0 A1 A2 c0 c1 c2 m);have hb2:=(Below.refl _ W1).alloc (Nat.le_refl _) (.cells #[.int .u64 (g1:Int),.int .u64 (g2:Int)] 38);have hr2:=qd.new W1 38 #[.int .u64 (g1:Int),.int .u64 (g2:Int)];obtain⟨W,hW2⟩:=QE (W1.alloc (.cells #[.int .u64 (g1:Int),.int .u64 (g2:Int)] 38));rw[hW2]at hb2 hr2;have qC:=QH (qa hb1 hb2);have hk2:=zX.below hb2;have HS:=QH (hS.below qC.out);have q0:=hk2.cell 0;have q1:=hk2.cell 1;have q2:=hk2.cell 2;have q3:=hk2.cell 3;have q4:=hk2.cell 4;have q5:=hk2.cell 5;have q6:=hk2.cell 6;have q7:=hk2.cell 7;have q8:=hk2.cell 8;have r0:=hr2.cell 0;have r1:=hr2.cell 1;simp only[zJ,QA,QB,QC]at q0 q1 q2 q3 q4 q5 q6 q7 q8 r0 r1;have e0:=fun d os=>cell_regrown q0 d os;have e1:=fun d os=>cell_regrown q1 d os;have e2:=fun d os=>cell_regrown q2 d os;have e3:=fun d os=>cell_regrown q3 d os;have e4:=fun d os=>cell_regrown q4 d os;have e5:=fun d os=>cell_regrown q5 d os;have e6:=fun d os=>cell_regrown q6 d os;have e7:=fun d os=>cell_regrown q7 d os;have e8:=fun d os=>cell_regrown q8 d os;have p0:=fun d os=>cell_regrown r0 d os;have p1:=fun d os=>cell_regrown r1 d os;have cL:∀b os,Calls prog 227 #[.agg (zJ A0 A1 A2 c0 c1 c2 m)] (grow (redrawn W b) os) fun e w''=>e=.returned (gv (qI m))∧∃q:Regrown,w''=grow (redrawn W q.d) q.os :=
  fun b os=>Calls.regrown_of (qaf (HS.out.below (below_regrown W b os)) h20)
 have cA:∀b os,Calls prog 228 #[gv (g1,g2),gv (qI m)] (grow (redrawn W b) os) fun e w''=>e=.returned (.bool (above (g1,g2) (qI m)))∧∃q:Regrown,w''=grow (redrawn W q.d) q.os :=
  fun b os=>Calls.regrown_of (p9 (g1,g2) (qI m) _)
 obtain⟨L,hL⟩:=QE (gv (qI m));rw[hL]at cA cL;generalize above (g1,g2) (qI m)=q at *;have HQ1:=QH q1;clear hS zX hb1 hb2 hr2 hk2 q0 q1 q2 q3 q4 q5 q6 q7 q8 r0 r1 hL;show Calls _ _ #[.agg (zJ A0 A1 A2 c0 c1 c2 m),.agg #[.int .u64 (g1:Int),.int .u64 (g2:Int)]] _ _;unfold gv at cA;unfold zJ at hW1 cL ⊢;dsimp only at cA;go_enter func229,ntmps229;go_upto_region 1 with fail;try rw[hW1]
 try rw[hW2]
 clear hW1 hW2;refine wp_region_quiet_below vU (by kernel_rfl) ?_;repeat (any_goals (first|go_big_quiet_step (first|exact cL _ _|exact cA _ _)|quiet_step (first|exact cL _ _|exact cA _ _)))
 refine wpQuiet_nil ?_;intro _ hw';obtain⟨⟨dq,osq⟩,hw''⟩:=hw';subst hw'';have q1:=e1 dq osq;have hb:=below_regrown W dq osq;have zB:=QH (qa qC.out hb);clear hb e0 e1 e2 e3 e4 e5 e6 e7 e8 p0 p1 cL cA qC HS HQ1;generalize grow (redrawn W dq) osq=W3 at *;cases q with
 | false =>
  go_wp2_with fail;go_ret;exact⟨rfl,zB.out⟩
 | true =>
  by_cases hx:(20:Int)≤(m.qc.length:Int)
  ·go_wp2_with fail;go_ret;exact⟨rfl,zB.out⟩
  ·go_wp2_with fail;go_ret;exact⟨rfl,zB.out⟩
theorem qgI{o:Nat→Prop}{w:World}{v pd:Nat}{m:Mt}{l:Bool}(h:ak o w v pd m l):Calls prog 77 #[pt v] w fun e w'=>e=.returned (.int .i64 (m.live.length:Int))∧Below w.heap.size w w':=by
 obtain⟨A0,A1,A2,c0,c1,c2,hA⟩:=h;obtain⟨klt,k0,_⟩:=hA.cells;clear hA;go_enter func77,ntmps77;go_wp2_with fail;go_ret;exact⟨rfl,Below.refl _ _⟩
theorem qdO(w:World):Calls prog 77 #[.pointer none] w fun e w'=>e=.returned (.int .i64 0)∧Below w.heap.size w w':=by
 go_enter func77,ntmps77;go_wp2_with fail;go_ret;exact⟨rfl,Below.refl _ _⟩
theorem dL {o:Nat→Prop}{w:World}{v pd:Nat}{m:Mt}{l:Bool}(h:ak o w v pd m l):Calls prog 37 #[pt v] w (ch.oW (m.qc.map (·.g)) w):=by
 obtain⟨A0,A1,A2,c0,c1,c2,hA⟩:=h;have HG:=QH (qk0 (A0:=A0) (A2:=A2) (c0:=c0) (c1:=c1) (c2:=c2) hA.tab.mt.qc hA.sz.qc);obtain⟨klt,k0,k1,k2,k3,k4,k5,k6,k7,k8,k9,cT⟩:=hA.cells;unfold zJ at HG;clear hA;go_enter func37,ntmps37;go_wp2_with fail;refine HG.out.mono ?_;rintro e W1 ⟨A,cc,rfl,h1,h2,h3⟩;have H1:=QH h1;have H2:=QH h2;have H3:=QH h3;clear h1 h2 h3 HG;go_wp2_with fail;go_ret;exact⟨A,cc,by rw[List.length_map];rfl,H1.out,H2.out,H3.out⟩
theorem qk6(w:World):Calls prog 37 #[.pointer none] w (ch.oW [] w):=by
 go_enter func37,ntmps37;go_wp2_with fail;go_ret;exact⟨none,0,rfl,fun i h=>absurd h (by simp),ib.wb.none _ _,Below.refl _ _⟩
section
variable {o1 o2:Nat→Prop} {w:World} {v pd N b:Nat} {d:DD} {m:Mt} {l:Bool} {t:Tg}
end
theorem qdP(t:Tg)(m:Mt)(g:Gd):(∃c,c≠0∧vG m g=(0,c)∧(uk t m).read g=([],c)∧qnt m g=⟨c,m,[]⟩) ∨
    ∃i,∃h:i<m.qc.length,vG m g=((i:Int),0)∧(uk t m).read g=(volume t m.qc[i].qu,0)∧qnt m g=⟨0,{ m with qc:=gS m.qc i },[]⟩:=by
 unfold vG qnt ch.CH.read;rw[qn1];cases hf:tX m g with
 | none=>exact .inl ⟨5,by decide,rfl,rfl,rfl⟩
 | some i =>
  have hi:i<m.qc.length:=(List.findIdx?_eq_some_iff_getElem.1 hf).1;have e:(uk t m).qc[i]?=some (qbh t m.qc[i]):=by simp[uk,hi]
  dsimp only;rw[e,List.getElem?_eq_getElem hi];dsimp only;have eh:(qbh t m.qc[i]).hid=m.qc[i].hid:=rfl;rw[eh];cases hh:m.qc[i].hid with
  | true=>exact .inl ⟨14,by decide,by simp,by simp,by simp⟩
  | false=>exact .inr ⟨i,hi,by simp,by simp[qbh],by simp⟩
theorem qk7{o1 o2:Nat→Prop}{w:World}{v pd N b:Nat}{d:DD}{m:Mt}{t:Tg}(g:Gd)(h:VP ak w o1 o2 v pd d m false)(hJ:jr.JJ N t d)(hR:xK b N t m):Calls prog 42 #[pt v,gv g] w (ch.oV ((uk t m).read g) w):=by
 obtain⟨g1,g2⟩:=g;have hb2:=(Below.refl _ w).alloc (Nat.le_refl _) (.cells #[.int .u64 (g1:Int),.int .u64 (g2:Int)] 38);have hr2:=qd.new w 38 #[.int .u64 (g1:Int),.int .u64 (g2:Int)];obtain⟨W,hW2⟩:=QE (w.alloc (.cells #[.int .u64 (g1:Int),.int .u64 (g2:Int)] 38));rw[hW2]at hb2 hr2;have h2:=ze h hb2;obtain⟨A0,A1,A2,c0,c1,c2,hA⟩:=h2.is;have HA:=QH hA;have HV:=QH h2;have HJ:=QH hJ;have HR:=QH hR;have qC:=QH hb2;have dy:=QH (qdA h2 hJ.on);have tK:=QH hA.sz;obtain⟨klt,k0,k1,k2,k3,k4,k5,k6,k7,k8,k9,cT⟩:=hA.cells;have r0:=hr2.cell 0;have r1:=hr2.cell 1;have rlt:=hr2.lt;simp only[Nat.zero_add,QA,QB,QC]at r0 r1;have e0:=fun d os=>cell_regrown k0 d os;have e1:=fun d os=>cell_regrown k1 d os;have e2:=fun d os=>cell_regrown k2 d os;have e3:=fun d os=>cell_regrown k3 d os;have e4:=fun d os=>cell_regrown k4 d os;have e5:=fun d os=>cell_regrown k5 d os;have e6:=fun d os=>cell_regrown k6 d os;have e7:=fun d os=>cell_regrown k7 d os;have e8:=fun d os=>cell_regrown k8 d os;have p0:=fun d os=>cell_regrown r0 d os;have p1:=fun d os=>cell_regrown r1 d os;have cF:∀b os,Calls prog 99 #[.agg (zJ A0 A1 A2 c0 c1 c2 m),gv (g1,g2)] (grow (redrawn W b) os) fun e w''=>e=.returned (.tuple #[.int .i64 (vG m (g1,g2)).1,.int .i64 (vG m (g1,g2)).2])∧∃q:Regrown,w''=grow (redrawn W q.d) q.os :=
  fun b os=>Calls.regrown_of (uW (HA.out.below (below_regrown W b os)).tab.mt.qc tK.out.qc (g1,g2))
 have HFC:=QH (qdP t m (g1,g2));have hE0:∀(c:Int),vG m (g1,g2)=(0,c)→vG m (g1,g2)=(0,c):=fun _ h=>h;obtain⟨R,hR'⟩:=QE ((uk t m).read (g1,g2));obtain⟨F,hF⟩:=QE (vG m (g1,g2));rw[hF,hR']at HFC;rw[hF]at cF;rw[hR'];obtain⟨F1,F2⟩:=F;clear h h2 hJ hR hA hb2 hr2 hR' hF hE0;unfold gv at cF;unfold zJ at cF;dsimp only at cF;show Calls _ _ #[pt v,.agg #[.int .u64 (g1:Int),.int .u64 (g2:Int)]] _ _;go_enter func42,ntmps42;go_upto_region 1 with fail;try rw[hW2]
 clear hW2;go_wp2_with fail;refine dy.out.mono ?_;rintro e W1 ⟨rfl,rfl⟩;clear dy;go_upto_region 4 with fail;refine wp_region_quiet_below vU (by kernel_rfl) ?_;repeat (any_goals (first|go_big_quiet_step (first|exact cF _ _)|quiet_step (first|exact cF _ _)))
 refine wpQuiet_nil ?_;intro _ hw';obtain⟨⟨dq,osq⟩,hw''⟩:=hw';subst hw'';have hb:=below_regrown W dq osq;have zB:=QH (qa qC.out hb);have HV3:=QH (ze HV.out hb);have lD:=QH (HA.out.below hb);clear hb e0 e1 e2 e3 e4 e5 e6 e7 e8 p0 p1 cF HA HV qC klt k0 k1 k2 k3 k4 k5 k6 k7 k8 k9 cT r0 r1 rlt;generalize grow (redrawn W dq) osq=W3 at *;rcases HFC.out with⟨c,hc,hf,bz,_⟩|⟨i,hi,hf,bz,_⟩
 ·obtain⟨rfl,rfl⟩:=Prod.mk.inj hf;have hcb:(F2 != 0)=true:=by simpa using hc
  have dy:=QH bz;clear hc bz hf HFC;go_wp2_with fail;go_ret2;rw[dy.out];exact⟨none,0,rfl,fun i h=>absurd h (by simp),ib.wb.none _ _,zB.out⟩
 ·obtain⟨rfl,rfl⟩:=Prod.mk.inj hf;have dy:=QH bz;obtain⟨b',o',B,cc,rfl,s1,s2,s3,s4,s5,s6,s7⟩:=lD.out.tab.mt.qc i hi;have cQ:=QH (r8 HV3.out HJ.out s6 (tK.out.dG _ (List.getElem_mem hi)) (fun z hz=>(HR.out.ok.dG _ (List.getElem_mem hi)).2.1 z hz));obtain⟨klt,k0,k1,k2,k3,k4,k5,k6,k7,k8,k9,cT⟩:=lD.out.cells;have hii:(i:Int)<(m.qc.length:Int):=by omega
  have hin:¬ (i:Int)<0:=by omega
  generalize m.qc[i].qu=im at *;clear bz hf HFC s2 s3 s5 s6 s7 hi;go_wp2_with fail;refine cQ.out.mono ?_;rintro e W4 ⟨A,cc',rfl,h1,h2,h3⟩;have H1:=QH h1;have H2:=QH h2;have H3:=QH h3;clear h1 h2 h3 cQ;go_wp2_with fail;go_ret2;rw[dy.out];exact⟨A,cc',rfl,H1.out,fun b o e=>⟨Nat.le_trans zB.out.size (H2.out b o e).1,(H2.out b o e).2⟩,qa zB.out H3.out⟩
end Go.Proofs.YtdpbdkacngaemaaGreatDoor.vt.pg
namespace Go.Proofs.YtdpbdkacngaemaaGreatDoor.vt.pg
open _root_.Go.Proofs.Tryz Go Go.RowKit Go.Sort ib mt im sp
def aF (w:World)(g:Nat)(A:Option Addr)(l:List Int):Prop:=∀i (h:i<l.length),∃b o,A=some ⟨b,o,none⟩∧b≠g∧b<w.heap.size∧w.cell? ⟨b,o+i,none⟩=some (.int .i64 l[i])
theorem aF.set{w:World}{g k:Nat}{u:Value}{A:Option Addr}{l:List Int}(h:aF w g A l):aF (w.setCell ⟨g,k,none⟩ u) g A l:=by
 intro i hi;obtain⟨b,o,h1,h2,h3,h4⟩:=h i hi;exact⟨b,o,h1,h2,by simpa[World.setCell]using h3,(World.cell?_of_block (a:=⟨b,o+i,none⟩) (qy _ _ _ _ _ h2)).trans h4⟩
theorem aF.below{w w':World}{g:Nat}{A:Option Addr}{l:List Int}(h:aF w g A l)(hb:Below w.heap.size w w'):aF w' g A l:=by
 intro i hi;obtain⟨b,o,h1,h2,h3,h4⟩:=h i hi;exact⟨b,o,h1,h2,Nat.lt_of_lt_of_le h3 hb.size,(hb.cell (p:=⟨b,o+i,none⟩) h3).trans h4⟩
theorem aF.tail{w:World}{g b o:Nat}{f:Int}{l:List Int}(h:aF w g (some ⟨b,o,none⟩) (f::l)):aF w g (some ⟨b,o+1,none⟩) l:=by
 intro i hi;obtain⟨b',o',h1,h2,h3,h4⟩:=h (i+1) (by simpa using hi);simp only[Option.some.injEq,Addr.mk.injEq,and_true]at h1;obtain⟨rfl,rfl⟩:=h1;refine⟨b,o+1,rfl,h2,h3,?_⟩;rw[show o+1+i=o+(i+1)by omega];exact h4
structure Pk(x:List (Int × Bt))(fr:List Int)(k:Nat)(pre fr':List Int):Prop where
 le:k≤x.length
 len:pre.length=k
 all:(qf fr x).1=pre++(qf fr' (x.drop k)).1
 room:full (x.drop k)≤fr'.length
theorem Pk.start(x:List (Int × Bt))(fr:List Int)(h:full x≤fr.length):Pk x fr 0 [] fr:=⟨Nat.zero_le _,rfl,rfl,h⟩
theorem rh (c:Int × Bt)(r:List (Int × Bt)):full (c::r)=full r+if c.2=zb then 0 else 1:=by obtain⟨a,b⟩:=c;exact wF a b r
theorem qgJ(fr:List Int)(y:Int × Bt)(r:List (Int × Bt))(h:y.2=zb):qf fr (y::r)=(0::(qf fr r).1,(qf fr r).2):=by
 obtain⟨a,b⟩:=y;dsimp only at h;cases fr <;> simp[qf,h]
theorem qgK(f:Int)(fr:List Int)(y:Int × Bt)(r:List (Int × Bt))(h:¬ y.2=zb):qf (f::fr) (y::r)=(f::(qf fr r).1,(f,y.2)::(qf fr r).2):=by
 obtain⟨a,b⟩:=y;dsimp only at h;simp[qf,h]
theorem Pk.zero{x:List (Int × Bt)}{fr pre fr':List Int}{k:Nat}(h:Pk x fr k pre fr')(hk:k<x.length)(hz:x[k].2=zb):Pk x fr (k+1) (pre++[0]) fr':=by
 obtain⟨h1,h2,h3,h4⟩:=h;rw[List.drop_eq_getElem_cons hk]at h3 h4;rw[qgJ _ _ _ hz]at h3;rw[rh,if_pos hz]at h4;exact⟨by omega,by simp[h2],by rw[h3];simp,by omega⟩
theorem Pk.more{x:List (Int × Bt)}{fr pre fr':List Int}{k:Nat}(h:Pk x fr k pre fr')(hk:k<x.length)(hz:¬ x[k].2=zb):∃f r,fr'=f::r∧Pk x fr (k+1) (pre++[f]) r:=by
 obtain⟨h1,h2,h3,h4⟩:=h;rw[List.drop_eq_getElem_cons hk]at h3 h4;rw[rh,if_neg hz]at h4;cases fr' with
 | nil=>simp at h4
 | cons f r =>
  rw[qgK _ _ _ _ hz]at h3;exact⟨f,r,rfl,by omega,by simp[h2],by rw[h3];simp,by simp at h4;omega⟩
theorem Pk.stop{x:List (Int × Bt)}{fr pre fr':List Int}(h:Pk x fr x.length pre fr'):(qf fr x).1=pre:=by
 obtain⟨h1,h2,h3,h4⟩:=h;rw[List.drop_length]at h3;simpa[qf]using h3
def Pw (x:List (Int × Bt))(pre:List Int):List Pl:=PL x (pre++List.replicate (x.length-pre.length) 0)
theorem qwV(x:List (Int × Bt)):Pw x []=P0 x:=by
 unfold Pw PL P0;apply List.ext_getElem
 ·simp
 ·intro i h1 h2;simp
theorem ri {x:List (Int × Bt)}{pre:List Int}(h:pre.length≤x.length):(Pw x pre).length=x.length:=by
 unfold Pw PL;rw[List.length_zipWith,List.length_append,List.length_replicate];omega
theorem qoR{x:List (Int × Bt)}{pre:List Int}{k:Nat}(hp:pre.length=k)(hk:k<x.length)(h:k<(Pw x pre).length):(Pw x pre)[k]=(x[k].1,0,x[k].2):=by
 simp only[Pw,PL,List.getElem_zipWith];rw[List.getElem_append_right (by omega),List.getElem_replicate]
theorem qoS{x:List (Int × Bt)}{pre:List Int}{k:Nat}(hp:pre.length=k)(hk:k<x.length)(a:Int):(Pw x pre).set k (x[k].1,a,x[k].2)=Pw x (pre++[a]):=by
 apply List.ext_getElem
 ·rw[List.length_set,ri (by omega),ri (by simp;omega)]
 ·intro i h1 h2;rw[List.getElem_set];have hix:i<x.length:=by rw[ri (by simp;omega)]at h2;exact h2
  by_cases e:k=i
  ·subst e;rw[if_pos rfl];simp only[Pw,PL,List.getElem_zipWith];rw[List.getElem_append_left (by simp;omega),List.getElem_append_right (by omega)];simp[hp]
  ·rw[if_neg e];simp only[Pw,PL,List.getElem_zipWith]
   congr 2
   by_cases h3:i<pre.length
   ·rw[List.getElem_append_left h3,List.getElem_append_left (by simp;omega),List.getElem_append_left h3]
   ·rw[List.getElem_append_right (by omega),List.getElem_append_right (by simp;omega)];simp
theorem qsC{x:List (Int × Bt)}{pre:List Int}{k:Nat}(hp:pre.length=k)(hk:k<x.length):Pw x (pre++[0])=Pw x pre:=by
 rw[← qoS hp hk 0];have h:=ri (x:=x) (pre:=pre) (by omega);rw[← qoR hp hk (by omega),List.set_getElem_self]
theorem qwW{x:List (Int × Bt)}{pre:List Int}(h:pre.length=x.length):Pw x pre=PL x pre:=by
 unfold Pw;rw[h,Nat.sub_self,List.replicate_zero,List.append_nil]
def Pl2 (x:List (Int × Bt))(fr:List Int)(B:Nat)(bv:Value)(g:Nat)(w:World)(s i:Value)(wr:World):Prop :=
 ∃(k:Nat) (pre fr':List Int) (A:Option Addr) (c:Nat),i=.int .i64 (k:Int)∧s=.slice A fr'.length c∧fr'.length≤c∧Pk x fr k pre fr'∧aF wr g A fr'∧OPl wr B bv (Pw x pre)∧Below w.heap.size w wr
theorem qat{cs:List Int}{n:Nat}(h:(jq cs (n:Int)).2=0):n≤(jq cs (n:Int)).1.length:=by
 unfold jq at h ⊢;rw[if_neg (by omega)]at h ⊢;by_cases hf:(yo cs:Int)<(n:Int)
 ·rw[if_pos hf]at h;simp at h
 ·rw[if_neg hf];rw[Int.toNat_natCast];show n≤((za cs cs.length).take n).length;unfold yo at hf;rw[List.length_take];omega
theorem qgL{o1 o2:Nat→Prop}{w:World}{v pd N:Nat}{d:DD}{m:Mt}{l:Bool}{b:Nat}(h:VP ak w o1 o2 v pd d m l)(hn:d.n=N)(hok:jK b N m)(hN:N≤1024){A:Option Addr}{c:Nat}{x:List (Int × Bt)}(hx:ch.kR w A x)(eH:x.length≤8)(h32:∀y∈x,y.2.length=32) :
    Calls prog 62 #[pt v,.slice A x.length c] w (qsr (qU N m x) x w):=by
 obtain⟨i0,hi,hz0,hz1,hz2⟩:=info_parts qwD;have HV:=QH h;have HX:=QH hx;have H32:=QH h32;obtain⟨cs,hcs,hcl,_,_⟩:=cz hok hN;have hfull:=qbi x;have HCS:=QH hcs;have HNN:=QH hn;clear h hx h32 hcs hok hn;go_enter func62,ntmps62;go_wp2_with fail;go_loopw [6,7,16] (fun v f i wr=>PlR x w v f i wr) (fun _ _ i _=>x.length-(intOf i).toNat);case atStart=>exact⟨0,Nat.zero_le _,rfl,rfl,World.ownsRow_nil _ _ _ _,Below.refl _ _⟩
 case round =>
  obtain⟨k,hk,rfl,rfl,ho,hB⟩:=hrel;have HO:=QH ho;have HB:=QH hB;clear ho hB;by_cases hlt:k<x.length
  ·have yr:(k:Int)<(x.length:Int):=by omega
   have hk0:¬ (k:Int)<0:=by omega
   obtain⟨b',o,rfl,s1,s2,s3,_⟩:=(HX.out.below HB.out) k hlt;have ua:Hid (P0 (x.take (k+1))=P0 (x.take k)++[(x[k].1,0,x[k].2)]):=by unfold Hid P0;rw[List.take_succ_eq_append_getElem hlt,List.map_append];rfl
   have HLK:Hid ((P0 (x.take k)).length=k):=by unfold Hid P0;rw[List.length_map,List.length_take];omega
   have HFT:=QH (qkr hlt);have hft:full (x.take k)≤k:=by have:=qbi (x.take k);rw[List.length_take]at this;omega
   have HZ:Hid (∀W,Calls prog 136 #[.string (str x[k].2)] W (uE (decide (x[k].2=zb)) W)):=fun W=>mf _ (H32.out _ (List.getElem_mem hlt)) W;obtain⟨y,hy⟩:=QE (x[k]);rw[hy]at ua HFT HZ s2 s3;clear hy;obtain⟨kb,s⟩:=y;dsimp only at ua HFT HZ s2 s3;obtain⟨fl,gY⟩:=QE (full (x.take k));rw[gY]at HFT hft ⊢;obtain⟨S,hS⟩:=QE (str s);have HSS:=QH hS;rw[hS]at s3 HZ;clear gY hS;have vq:=(Below.refl _ wr).alloc (Nat.le_refl _) (.cells #[.int .i64 kb,.string S] 122);obtain⟨W3,hW3⟩:=QE (wr.alloc (.cells #[.int .i64 kb,.string S] 122));have zy:=qd.new wr 122 #[.int .i64 kb,.string S];rw[hW3]at vq zy;have kX:=QH zy;have r0:=zy.cell 0;have r1:=zy.cell 1;have hrl:=zy.lt;simp only[QA,QB,QC]at r0 r1;have hby:=(Below.refl _ W3).alloc (Nat.le_refl _) (.cells #[.int .i64 kb,.int .i64 0,.string S] 214);have hbz:=qa vq hby;have HO4:=QH (HO.out.below hbz);have zT:=QH (qa HB.out hbz);have au:Hid (∀j u,([.int .i64 kb,.int .i64 0,.string S]:List Value)[j]?=some u→(W3.alloc (.cells #[.int .i64 kb,.int .i64 0,.string S] 214)).cell? ((⟨W3.heap.size,0,none⟩:Addr).add j)=some u):=fun j u hu=>by
    rw[addr_add,Nat.zero_add,(qd.new W3 214 #[.int .i64 kb,.int .i64 0,.string S]).cell j];simpa using hu
   have e1:∀u∈([.int .i64 kb,.int .i64 0,.string S]:List Value),u.oneCell'=true:=by intro u hu;simp at hu;rcases hu with rfl|rfl|rfl <;> rfl
   have E1:=QH e1;have E2:Hid ((P0 (x.take k)).length+1≤maxLen):=by unfold Hid;rw[HLK.out];unfold maxLen;omega
   have E3:Hid (((P0 (x.take k)).length+1)*32≤140737488355328):=by unfold Hid;rw[HLK.out];omega
   have zB:Hid (Below W3.heap.size W3 (W3.alloc (.cells #[.int .i64 kb,.int .i64 0,.string S] 214))):=hby;have HWW:Hid (w.heap.size≤wr.heap.size):=HB.out.size;have tH:Hid (∀j,(∃v':Value,v'.ownBlock=some j∧OPl wr w.heap.size v' (P0 (x.take k)))→j≠wr.heap.size):=fun j ⟨v',h1,h2⟩ e=>by have:=(h2.lt j h1).2;omega
   clear e1 vq zy hby hbz;go_wp2_with (at_builtin;refine ya rfl (.tmp 20) (.tmp 26) 124 rfl w.heap.size 214 i0 (.agg #[.int .i64 0,.int .i64 0,.string ByteArray.empty]) 3 32 underlying124 hi hz0 hz1 hz2 rfl (by decide) _ _ _ rfl HO4.out ⟨W3.heap.size,0,none⟩ 1 1 [.int .i64 kb,.int .i64 0,.string S] rfl rfl au.out E1.out E2.out E3.out zT.out.size ?_);intro v' w1 hown hgrow _;have jJ:Hid (Below w.heap.size w w1):=zT.out.grown hgrow zT.out.size (fun j hj=>(HO4.out.lt j hj).1);have HO5:Hid (OPl w1 w.heap.size v' (P0 (x.take (k+1)))):=by
    unfold Hid OPl;rw[ua.out,bM,List.length_append,HLK.out];show w1.ownsRow _ _ _ v' (k+1) (jg (P0 (x.take k))++[.int .i64 kb,.int .i64 0,.string (str s)]);rw[HSS.out];have h9:=hown;rw[HLK.out]at h9;exact h9
   have hk5:qd w1 wr.heap.size 122 #[.int .i64 kb,.string S]:=(kX.out.below zB.out).of_block (hgrow.block _ (kX.out.below zB.out).lt (fun e=>by
    have:=(HO.out.lt wr.heap.size e.symm).2;omega))
   have r1:=hk5.cell 1;have hrl:=hk5.lt;simp only[QA,QB,QC]at r1;clear hown hgrow hk5;go_wp2_with fail;refine(HZ.out _).mono ?_;rintro e W6 ⟨rfl,dz⟩;have HO6:=QH (HO5.out.below dz);have dQ:=QH (qa jJ.out dz);have hfw:IntKind.i64.wrap ((fl:Int)+1)=((fl+1:Nat):Int):=by rw[IntWalk.i64_in _ (by omega)];omega
   clear dz r1 hrl HZ;by_cases hz:s=zb
   ·rw[decide_eq_true hz];have HF:Hid (full (x.take (k+1))=fl):=by unfold Hid;rw[HFT.out,if_pos hz,Nat.add_zero]
    clear hz HFT;go_wp2_with fail;go_roundw;case rel=>exact⟨k+1,by omega,by go_num,by rw[HF.out],HO6.out,dQ.out⟩
    case measure=>simp[intOf];omega
   ·rw[decide_eq_false hz];have HF:Hid (full (x.take (k+1))=fl+1):=by unfold Hid;rw[HFT.out,if_neg hz]
    clear hz HFT;go_wp2_with fail;go_roundw;case rel=>exact⟨k+1,by omega,by go_num,by rw[HF.out];rfl,HO6.out,dQ.out⟩
    case measure=>simp[intOf];omega
  ·obtain rfl:k=x.length:=by omega
   have yr:¬ (x.length:Int)<(x.length:Int):=by omega
   have ho:=HO.out;rw[List.take_length]at ho ⊢;obtain⟨VA,vc,hva,_⟩:=ho.view;have HO1:=QH ho;have hlp:(P0 x).length=x.length:=by unfold P0;rw[List.length_map]
   rw[hlp]at hva;have HVA:=QH hva;obtain⟨bv,sG⟩:∃z,z=z:=⟨(0:Nat),rfl⟩;clear ho hva sG bv;go_upto_region 10 with fail;have hv1:=ze HV.out HB.out;obtain⟨A0,A1,A2,c0,c1,c2,hA⟩:=hv1.is;have HAT:=QH hA;have qoT:=hA.cells;have HVP:=QH hv1;have hvl:=qoT.lt;clear hv1 hA;obtain⟨n1,hn1⟩:=QE ((xz m).length);obtain⟨n2,hn2⟩:=QE cs.length;have HN1:=QH hn1;have HN2:=QH hn2;have h16:n1≤1002:=by rw[← hn1];unfold xz;have:=HAT.out.sz.qc;simp;omega
   refine qV (by kernel_rfl) 16 [36,37,38,39,40,41,42,43,44,45,46,35,47,48,10,11] (by kernel_rfl) (PcG v pd N (.agg (zJ A0 A1 A2 c0 c1 c2 m)) n1 n2 (xz m) cs) (qo4 _ _ _ _ _ _ _ _) ?_ ?_
   ·intro i o vs ρ W zdN hop hρ hfn hb hG;have t0:ρ (.tmp 0)=pt v:=hρ.out 0 rfl;have hc:=hρ.const;have s36:=hρ.at_ 36 0 rfl;have s37:=hρ.at_ 37 1 rfl;have s38:=hρ.at_ 38 2 rfl;have s39:=hρ.at_ 39 3 rfl;have s40:=hρ.at_ 40 4 rfl;have s41:=hρ.at_ 41 5 rfl;have s42:=hρ.at_ 42 6 rfl;have s43:=hρ.at_ 43 7 rfl;have s44:=hρ.at_ 44 8 rfl;have s45:=hρ.at_ 45 9 rfl;have s46:=hρ.at_ 46 10 rfl;have s35:=hρ.at_ 35 11 rfl;have s47:=hρ.at_ 47 12 rfl;have s48:=hρ.at_ 48 13 rfl;have hat:=HAT.out.below hb;have HVW:=QH (ze HVP.out hb);obtain⟨klt,k0,k1,k2,k3,k4,k5,k6,k7,k8,k9,cT⟩:=hat.cells;rcases i with _|_|_|_|_|_|_|_|_|_|_|_|_|_|_|_|i;all_goals (first|omega|skip)
    all_goals simp only[QA,QB,QC,Option.some.injEq]at hop
    all_goals subst hop
    ·exact q9 (w':=W) (by unfold execOp;simp only[t0];go_simp) ⟨Below.refl _ _,rfl⟩
    ·have g0:vs 0=_:=hG 0 (by kernel_rfl);exact q9 (w':=W) (by unfold execOp;simp only[s36,g0];go_simp) ⟨Below.refl _ _,rfl⟩
    ·have g1:vs 1=_:=hG 1 (by kernel_rfl);exact q9 (w':=W) (by unfold execOp;simp only[s37,g1];go_simp) ⟨Below.refl _ _,rfl⟩
    ·have g2:vs 2=_:=hG 2 (by kernel_rfl);exact q9 (w':=W) (by unfold zJ execOp;simp only[s38,g2];go_simp) ⟨Below.refl _ _,rfl⟩
    ·have g3:vs 3=_:=hG 3 (by kernel_rfl);refine qj (f:=138) (args:=#[.agg (zJ A0 A1 A2 c0 c1 c2 m)]) (w':=W) (by unfold execOp;simp only[hc,hfn,s39,g3];go_simp) ((qgh hat.tab.mt hat.sz).mono ?_);rintro e W' ⟨A,c',rfl,h1,h2⟩;exact⟨_,rfl,h2,A,c',by rw[HN1.out],h1⟩
    ·exact q9 (w':=W) (by unfold execOp;simp only[t0];go_simp) ⟨Below.refl _ _,rfl⟩
    ·have g5:vs 5=_:=hG 5 (by kernel_rfl);exact q9 (w':=W) (by unfold execOp;simp only[s41,g5];go_simp) ⟨Below.refl _ _,rfl⟩
    ·have g6:vs 6=_:=hG 6 (by kernel_rfl);exact q9 (w':=W) (by unfold execOp;simp only[s42,g6];go_simp) ⟨Below.refl _ _,rfl⟩
    ·have g7:vs 7=_:=hG 7 (by kernel_rfl);exact q9 (w':=W) (by unfold execOp;simp only[s43,g7];go_simp) ⟨Below.refl _ _,rfl⟩
    ·have g8:vs 8=_:=hG 8 (by kernel_rfl);refine qj (f:=43) (args:=#[pt pd]) (w':=W) (by unfold execOp;simp only[hc,hfn,s44,g8];go_simp) ((pG HVW.out.dk).mono ?_);rintro e W' ⟨rfl,rfl⟩;exact⟨_,rfl,Below.refl _ _,by rw[HNN.out];rfl⟩
    ·obtain⟨A,c',g4,h1⟩:=hG 4 (by kernel_rfl);have g9:vs 9=_:=hG 9 (by kernel_rfl);have hcc:=qsq A c' (xz m) (N:Int) W h1 (by have:=HN1.out;omega) (by unfold ib.qG;omega);rw[HN1.out]at hcc;refine qj (f:=137) (args:=#[.slice A n1 c',.int .i64 (N:Int)]) (w':=W) (by unfold execOp;simp only[hc,hfn,s40,g4,s45,g9];go_simp) (hcc.mono ?_);rintro e W' ⟨A',c'',rfl,h2,h3,_⟩;rw[HCS.out]at h2;refine⟨_,rfl,h3,A',c'',?_,h2⟩;rw[HCS.out,HN2.out]
    ·obtain⟨A,c',g10,h1⟩:=hG 10 (by kernel_rfl);exact q9 (w':=W) (by unfold execOp;simp only[s46,g10];go_simp) ⟨Below.refl _ _,A,c',rfl,h1⟩
    ·obtain⟨A,c',g11,h1⟩:=hG 11 (by kernel_rfl);exact q9 (w':=W) (by unfold execOp;simp only[s35,g11];go_simp) ⟨Below.refl _ _,A,c',rfl,h1⟩
    ·obtain⟨A,c',g11,h1⟩:=hG 11 (by kernel_rfl);exact q9 (w':=W) (by unfold execOp;simp only[s35,g11];go_simp) ⟨Below.refl _ _,rfl⟩
    ·obtain⟨A,c',g12,h1⟩:=hG 12 (by kernel_rfl);exact q9 (w':=W) (by unfold execOp;simp only[s47,g12];go_simp) ⟨Below.refl _ _,A,c',rfl,h1⟩
    ·have g13:vs 13=_:=hG 13 (by kernel_rfl);exact q9 (w':=W) (by unfold execOp;simp only[s48,g13];go_simp) ⟨Below.refl _ _,rfl⟩
   ·intro vs W hb hG;obtain⟨A,c',g14,h1⟩:=hG 14 (by decide);have g15:vs 15=_:=hG 15 (by decide);simp only[qX,qK,if_true];rw[g14,g15];generalize vs 0=z0;generalize vs 1=z1;generalize vs 2=z2;generalize vs 3=z3;generalize vs 4=z4;generalize vs 5=z5;generalize vs 6=z6;generalize vs 7=z7;generalize vs 8=z8;generalize vs 9=z9;generalize vs 10=z10;generalize vs 11=z11;generalize vs 12=z12;generalize vs 13=z13;have yy:=QH (qa HB.out hb);have HIW:=QH h1;have HOW:=QH (HO1.out.below hb);clear hG g14 g15 hb h1 HO1 HVP HAT qoT hvl;simp only[Act.put,List.setIfInBounds_toArray,List.set_cons_succ,List.set_cons_zero];refine⟨by kernel_rfl,?_⟩;have iH:=q1k A c' cs ((full x:Nat):Int) W HIW.out (by omega) (by unfold ib.qG;omega);rw[HN2.out]at iH;have ua:=QH iH;have HV1:Hid ((jq cs ((full x:Nat):Int)).2≠0→qU N m x=(([],[]),(jq cs ((full x:Nat):Int)).2)):=fun hne=>by unfold qU;rw[HCS.out];exact if_neg hne
    have nH:Hid ((jq cs ((full x:Nat):Int)).2=0→qU N m x=(qf (jq cs ((full x:Nat):Int)).1 x,0)):=fun he=>by unfold qU;rw[HCS.out];exact if_pos he
    have HTL:=QH (fun h=>qat (cs:=cs) (n:=full x) h);obtain⟨R1,hR1⟩:=QE ((jq cs ((full x:Nat):Int)).1);obtain⟨R2,hR2⟩:=QE ((jq cs ((full x:Nat):Int)).2);have vd:jq cs ((full x:Nat):Int)=(R1,R2):=by rw[← hR1,← hR2]
    rw[vd]at ua;rw[hR1,hR2]at nH HTL;rw[hR2]at HV1;obtain⟨V,hV⟩:=QE (qU N m x);rw[hV]at nH HV1;have HVE:=QH hV;obtain⟨bv,sG⟩:=QE (Value.slice VA x.length vc);have HBV:=QH sG;have HVV:=QH HVA.out;rw[HVV.out,sG]at HOW ⊢;clear iH hR1 hR2 vd hV sG HCS HVA HVV HIW;go_wp2_with fail;refine ua.out.mono ?_;rintro e W2 ⟨A',cc,rfl,mr,hb2,hnew,qsD⟩;have qC:=QH (qa yy.out hb2);have ue:=QH (HOW.out.below hb2);clear ua;by_cases h0:R2=0
    case' neg =>
     have hne:(R2 != 0)=true:=by simpa using h0
     have HV:=QH (HV1.out h0);have tH:=QH h0;clear h0 HV1 nH HTL mr hb2 hnew qsD;go_wp2_with fail;go_ret2;rw[HVE.out,HV.out];exact⟨qC.out,.inl ⟨tH.out,rfl⟩⟩
    subst h0;have HV:=QH (nH.out rfl);have hroom:=HTL.out rfl;clear nH HV1 HTL;have qsE:=HBV.out;by_cases hx0:x.length=0
    ·have hPL:PL x (qf R1 x).1=[]:=by rw[List.length_eq_zero_iff.1 hx0];rfl
     have hP0:P0 x=[]:=by rw[List.length_eq_zero_iff.1 hx0];rfl
     have HPL:=QH hPL;have ho2:=ue.out;rw[hP0]at ho2;have HOE:=QH ho2;have q6K:((x.length:Nat):Int)=0:=by omega
     obtain⟨xl,q6L⟩:=QE ((x.length:Nat):Int);rw[q6L]at q6K;have hbe:=HBV.out;rw[hx0]at hbe;subst hbe;clear hPL hP0 ho2 HBV mr hb2 hnew qsD ue HOW yy hroom qsE;go_wp2_with fail;go_loopw [63] (fun i wr=>i=.int .i64 0∧wr=W2) (fun _ _=>0);case atStart=>exact⟨rfl,rfl⟩
     case round =>
      obtain⟨rfl,rfl⟩:=hrel;go_wp2_with fail;go_ret2;refine⟨qC.out,.inr ⟨by rw[HVE.out,HV.out],_,rfl,?_⟩⟩;rw[HVE.out,HV.out];show OPl _ w.heap.size _ (PL x (qf R1 x).1);rw[HPL.out];exact HOE.out
    ·obtain⟨g,hg⟩:∃g,bv=.slice (some ⟨g,0,none⟩) x.length vc:=by
        rcases ue.out.2 with⟨e,h0⟩|⟨g',cap,cur,e,_⟩
        ·have:(P0 x).length=x.length:=by unfold P0;rw[List.length_map]
         omega
        ·rw[← qsE]at e;simp only[Value.slice.injEq]at e;exact⟨g',by rw[← qsE,e.1]⟩
     have hgW:g<W.heap.size:=(HOW.out.lt g (by rw[hg];rfl)).2;have HS0:Hid (aF W2 g A' R1):=fun i hi=>by
      obtain⟨b',o',h1,h2,h3,_⟩:=mr i hi;have:=(hnew b' o' h1).1;exact⟨b',o',h1,by omega,h2,h3⟩
     have HO3:Hid (OPl W2 w.heap.size bv (Pw x [])):=by unfold Hid;rw[qwV];exact ue.out
     have HK0:=QH (Pk.start x R1 hroom);have HLC:=QH qsD;subst hg;clear qsE HBV mr hb2 hnew qsD ue HOW yy hroom;go_wp2_with fail;go_loopw [12,13,63] (fun s _ i wr=>Pl2 x R1 w.heap.size (.slice (some ⟨g,0,none⟩) x.length vc) g w s i wr) (fun _ _ i _=>x.length-(intOf i).toNat);case atStart=>exact⟨0,[],R1,A',cc,rfl,rfl,HLC.out,HK0.out,HS0.out,HO3.out,qC.out⟩
     case round =>
      obtain⟨k,pre,fr',A3,c3,rfl,rfl,qwY,hpk,qnI,hop,hB⟩:=hrel;have HPK:=QH hpk;have q1Y:=QH qnI;have HOP:=QH hop;have HB:=QH hB;have mY:=hpk.le;have hpl:=hpk.len;clear hpk qnI hop hB;by_cases hlt:k<x.length
      ·have yr:(k:Int)<(x.length:Int):=by omega
       have hk0:¬ (k:Int)<0:=by omega
       have hkw:k<(Pw x pre).length:=by rw[ri (by omega)];exact hlt
       obtain⟨a3,c4,e3,qdQ⟩:=HOP.out.view;simp only[Value.slice.injEq]at e3;obtain⟨rfl,q6M,rfl⟩:=e3;clear q6M;obtain⟨b',o',e4,s1,s2,s3,s4⟩:=qdQ k hkw;simp only[Option.some.injEq,Addr.mk.injEq,and_true]at e4;obtain⟨rfl,rfl⟩:=e4;rw[qoR hpl hlt hkw]at s4;have q6N:=H32.out _ (List.getElem_mem hlt);have HZ:Hid (∀W,Calls prog 136 #[.string (str x[k].2)] W (uE (decide (x[k].2=zb)) W)):=fun W=>mf _ q6N W;have qoV:=QH (fun hz=>HPK.out.zero hlt hz);have qoW:=QH (fun hz=>HPK.out.more hlt hz);have HPZ:=QH (qsC (x:=x) hpl hlt);dsimp only at s4;rw[Nat.zero_add]at s4;obtain⟨S,hS⟩:=QE (str x[k].2);rw[hS]at s4 HZ;clear qdQ s2 s3 hS;go_wp2_with fail;refine(HZ.out _).mono ?_;rintro e W6 ⟨rfl,dz⟩;have dQ:=QH (qa HB.out dz);have qwZ:=QH (HOP.out.below dz);have qoX:=QH (q1Y.out.below dz);clear dz HZ HOP q1Y s1 s4;by_cases hz:x[k].2=zb
       ·rw[decide_eq_true hz];have qsF:=QH (qoV.out hz);clear hz qoV qoW;go_wp2_with fail;go_roundw;case rel=>exact⟨k+1,pre++[0],fr',A3,c3,by go_num,rfl,qwY,qsF.out,qoX.out,by rw[HPZ.out];exact qwZ.out,dQ.out⟩
        case measure=>simp[intOf];omega
       ·rw[decide_eq_false hz];obtain⟨f,r,hfr,q1Z⟩:=qoW.out hz;have qsF:=QH q1Z;subst hfr;obtain⟨b3,o3,rfl,n1,n2,n3⟩:=qoX.out 0 (by simp);have HT:=QH qoX.out.tail;obtain⟨qxa,hfz,hgB,jX⟩:=qwZ.out.set k hkw f;rw[qoR hpl hlt hkw,qoS hpl hlt f]at qxa;have q2a:=QH qxa;have HB7:Hid (Below w.heap.size w (W6.setCell ⟨g,k*3+1,none⟩ (.int .i64 f))):=dQ.out.setCell (p:=⟨g,k*3+1,none⟩) hgB _;obtain⟨a5,c5,e5,qdQ⟩:=qwZ.out.view;simp only[Value.slice.injEq]at e5;obtain⟨rfl,q6O,rfl⟩:=e5;clear q6O;obtain⟨b',o',e4,s1,s2,s3,s4⟩:=qdQ k hkw;simp only[Option.some.injEq,Addr.mk.injEq,and_true]at e4;obtain⟨rfl,rfl⟩:=e4;rw[Nat.zero_add]at s3;simp only[List.getElem_cons_zero,Nat.add_zero]at n3;have zdZ:(0:Int)<((r.length+1:Nat):Int):=by omega
        have zea:(1:Int)≤((r.length+1:Nat):Int):=by omega
        have hrc:((r.length+1:Nat):Int)≤(c3:Int):=by rw[List.length_cons]at qwY;omega
        rw[List.length_cons]at qwY ⊢;clear hz qoV qoW q1Z qxa qdQ s2 s4;go_wp2_with fail;go_region;go_wp2_with fail;all_goals
         refine⟨?_,by simp[intOf];omega⟩;by_cases hc1:c3=1
         ·have hr0:r.length=0:=by omega
          rw[if_pos hc1];exact⟨k+1,pre++[f],r,_,_,rfl,rfl,by omega,qsF.out,(fun i hi=>absurd hi (by omega)),q2a.out.below (Below.refl _ _).drew,HB7.out.drew⟩
         ·rw[if_neg hc1];exact⟨k+1,pre++[f],r,_,_,rfl,rfl,by omega,qsF.out,HT.out.set.below (Below.refl _ _).drew,q2a.out.below (Below.refl _ _).drew,HB7.out.drew⟩
      ·obtain rfl:k=x.length:=by omega
       have yr:¬ (x.length:Int)<(x.length:Int):=by omega
       have HE:=QH HPK.out.stop;have HPA:=QH (qwW (x:=x) hpl);go_wp2_with fail;go_ret2;refine⟨HB.out,.inr ⟨by rw[HVE.out,HV.out],_,rfl,?_⟩⟩;rw[HVE.out,HV.out];show OPl wr w.heap.size _ (PL x (qf R1 x).1);rw[HE.out,← HPA.out];exact HOP.out
section
variable {o1 o2:Nat→Prop} {w w1 w':World} {v pd N b:Nat} {d:DD} {m:Mt} {t:Tg} {Q:Int→DD→Mt→Bool→Prop} {e:Ending}
theorem qxb(hb:Below w.heap.size w w1)(h:q1G w.heap.size o1 o2 v pd Q w1 e w'):qbk ak o1 o2 v pd Q w e w':=by
 obtain⟨r,d',m',lost,sD,cS,h1,h2,h3,h4,h5⟩:=h;exact⟨r,d',m',lost,sD,cS,h1,h2,(ib.qB.of_below (S:=fun j=>o1 j∨o2 j) hb).trans h3 (fun _ h=>.inl h),h4,h5⟩
theorem qdR{l:Bool}{r:Int}(h:VP ak w' o1 o2 v pd d m l)(hb:Below w.heap.size w w')(hq:Q r d m l):qbk ak o1 o2 v pd Q w (.returned (.int .i64 r)) w' :=
 ⟨r,d,m,l,o1,o2,rfl,h,ib.qB.of_below hb,fun j hj=>.inl hj,hq⟩
theorem qoY(h:VP ak w o1 o2 v pd d m false):∀j,o1 j∨o2 j∨j=gN→j<w.heap.size:=fun j hj=>by
 rcases hj with hj|hj|hj
 ·exact qbn h.is j (.inl hj)
 ·exact iT h.dk j hj
 ·exact qbn h.is j (.inr hj)
end
theorem qgM{b N:Nat}{m:Mt}{x:List (Int × Bt)}(hok:jK b N m)(hN:N≤1024)(h0:(qU N m x).2=0):pQ (PL x (qU N m x).1.1)=(qU N m x).1.2:=by
 obtain⟨cs,hcs,hcl,_,_⟩:=cz hok hN;unfold qU at h0 ⊢;rw[hcs]at h0 ⊢;dsimp only at h0 ⊢;by_cases hz:(jq cs ((full x:Nat):Int)).2=0
 ·rw[if_pos hz];have hl:=qat hz;refine l7 x _ (fun f hf=>?_) hl;have hst:(jq cs ((full x:Nat):Int)).1=(za cs cs.length).take (full x):=by
   unfold jq at hz ⊢;rw[if_neg (by omega)]at hz ⊢;by_cases hf:(yo cs:Int)<((full x:Nat):Int)
   ·rw[if_pos hf]at hz;simp at hz
   ·rw[if_neg hf,Int.toNat_natCast]
  rw[hst]at hf;obtain⟨j,e,g1,_,_⟩:=iN.1 (List.mem_of_mem_take hf);omega
 ·rw[if_neg hz]at h0;exact absurd h0 hz
theorem q2c{b N:Nat}{m:Mt}{x:List (Int × Bt)}{at_:List Int}{ws:List jr.Wr}(hp:oK N m x at_ ws)(hN:N≤1024)(hc:xC b (-1) x=true):∀p∈PL x at_,0≤p.1∧p.1<(b:Int)∧0≤p.2.1∧qG p.2.1:=by
 intro p hm;obtain⟨i,hi,rfl⟩:=List.getElem_of_mem hm;have hx:i<x.length:=by unfold PL at hi;simp at hi;omega
 have ha:i<at_.length:=by unfold PL at hi;simp at hi;omega
 have e:(PL x at_)[i]=(x[i].1,at_[i],x[i].2):=by simp[PL]
 rw[e];have h1:=wG hc _ (List.getElem_mem hx);refine⟨by show 0≤x[i].1;omega,h1.2.2,?_⟩;show 0≤at_[i]∧qG at_[i];rcases hp.each i hx ha with⟨_,h⟩|⟨_,h⟩
 ·rw[h];exact⟨by omega,by unfold qG;omega⟩
 ·have hr:=hp.wok.range _ h;dsimp only at hr;exact⟨by omega,by unfold qG;omega⟩
theorem qxc{x:List (Int × Bt)}{at_:List Int}(h:at_.length=x.length):(PL x at_).length=x.length:=by unfold PL;rw[List.length_zipWith];omega
theorem wJ.form{G:Nat→Prop}{w:World}{f:Value}{m m':Mt}(h:wJ G w f m m'):∃k uS,f=.func (.func k) #[] uS:=by
 obtain⟨k,uS,h1,_⟩:=h;exact⟨k,uS,h1⟩
theorem qoZ{G:Nat→Prop}{w:World}{f:Value}{m m':Mt}{b:Nat}(hk:qd w b 129 #[f])(h:wJ G w f m m'):qgD G w (some ⟨b,0,none⟩) 1 (fun i=>if i=0 then m else m'):=fun i hi=>by
 obtain rfl:i=0:=by omega
 exact⟨b,0,f,rfl,hk.lt,hk.cell 0,h⟩
theorem qgN{G:Nat→Prop}{w:World}{f g k:Value}{m m1 m2 m3:Mt}{b:Nat}(hk:qd w b 129 #[f,g,k])(h1:wJ G w f m m1)(h2:wJ G w g m1 m2)(h3:wJ G w k m2 m3):qgD G w (some ⟨b,0,none⟩) 3 (fun i=>if i=0 then m else if i=1 then m1 else if i=2 then m2 else m3):=fun i hi=>by
 match i,hi with
 | 0,_=>exact⟨b,0,f,rfl,hk.lt,hk.cell 0,h1⟩
 | 1,_=>exact⟨b,0,g,rfl,hk.lt,hk.cell 1,h2⟩
 | 2,_=>exact⟨b,0,k,rfl,hk.lt,hk.cell 2,h3⟩
theorem qdS{N:Nat}{t:Tg}{d:DD}{m:Mt}{c:Int}(h:c≠0):qj9 N t d m ⟨c,m,[]⟩ c d m false:=.inl ⟨h,rfl,rfl,rfl,rfl⟩
theorem qim{o1 o2:Nat→Prop}{w w1:World}{v pd N b n:Nat}{d:DD}{m:Mt}{t:Tg}{pn:qfO}{M:Nat→Mt}(h:VP ak w o1 o2 v pd d m false)(hb:Below w.heap.size w w1)(hJ:jr.JJ N t d)(hf:0≤d.qz)(hR:xK b N t m)(hc:pn.code=0)(hdo:jK b N pn.m∧tY N m pn.ws)
    (hM0:M 0=m) (hMn:M n=pn.m) {A:Option Addr} {c:Nat} (hE:qgD (fun j=>(o1 j∧j≠v)∨w.heap.size≤j) w1 A n M) (hn:n≤10) {B:Option Addr} {cb:Nat} {P:List Pl} (hP:PlL w1 B P) (hpl:P.length≤100) (hPW:pQ P=pn.ws) :
    Calls prog 63 #[pt v,.slice B P.length cb,.slice A n c] w1 (qbk ak o1 o2 v pd (qj9 N t d m pn) w):=by
 have hpn:pn=⟨0,pn.m,pn.ws⟩:=by rw[← hc]
 rw[hpn];refine(qgE (ze h hb) hJ hf hR hb.size (qoY h) hM0 hMn hdo.1 hdo.2 hE hn hP hpl hPW).mono ?_;rintro e W hx;exact qxb hb hx
end Go.Proofs.YtdpbdkacngaemaaGreatDoor.vt.pg
namespace Go.Proofs.YtdpbdkacngaemaaGreatDoor.vt.pg
open _root_.Go.Proofs.Tryz Go Go.RowKit Go.Sort ib mt im sp
theorem qpa:TkB yB:=⟨by simp[xF,yB],by simp[xF,yB],by simp[qG,yB],by simp[qG,yB]⟩
section
variable {o1 o2:Nat→Prop} {w w1 w':World} {v pd:Nat} {d:DD} {m:Mt} {l:Bool}
end
end Go.Proofs.YtdpbdkacngaemaaGreatDoor.vt.pg
namespace Go.Proofs.YtdpbdkacngaemaaGreatDoor.vt.pg
open _root_.Go.Proofs.Tryz Go Go.RowKit Go.Sort ib mt im sp
def qgO (W:World)(g:Nat)(t:Tk)(v:Value):World :=
 ((((((W.setCell ⟨g,0,none⟩ (.int .u64 (t.base.1:Int))).setCell ⟨g,1,none⟩ (.int .u64 (t.base.2:Int))).setCell ⟨g,2,none⟩ (.int .u64 (t.target.1:Int))).setCell ⟨g,3,none⟩ (.int .u64 (t.target.2:Int))).setCell ⟨g,4,none⟩ (.int .i64 t.next)).setCell ⟨g,5,none⟩ (.int .i64 t.all)).setCell ⟨g,6,none⟩ v
theorem qdT{W:World}{g:Nat}{z0 z1 z2 z3 z4 z5 z6:Value}(t:Tk)(A:Option Addr)(c:Nat)(h:qd W g 82 #[z0,z1,z2,z3,z4,z5,z6]):qd (qgO W g t (.slice A t.qu.length c)) g 82 (r9 t A t.qu.length c):=by
 have h9:=((((((h.qo 0 (.int .u64 (t.base.1:Int))).qo 1 (.int .u64 (t.base.2:Int))).qo 2 (.int .u64 (t.target.1:Int))).qo 3 (.int .u64 (t.target.2:Int))).qo 4 (.int .i64 t.next)).qo 5 (.int .i64 t.all)).qo 6 (.slice A t.qu.length c);simp only[List.setIfInBounds_toArray,List.set_cons_succ,List.set_cons_zero]at h9;exact h9
theorem rj {W0 W:World}{g:Nat}{v:Value}{t:Tk}(h:Below W0.heap.size W0 W)(hg:W0.heap.size≤g):Below W0.heap.size W0 (qgO W g t v) :=
 ((((((h.setCell (p:=⟨g,0,none⟩) hg _).setCell (p:=⟨g,1,none⟩) hg _).setCell (p:=⟨g,2,none⟩) hg _).setCell (p:=⟨g,3,none⟩) hg _).setCell (p:=⟨g,4,none⟩) hg _).setCell (p:=⟨g,5,none⟩) hg _).setCell (p:=⟨g,6,none⟩) hg _
theorem qpb(W:World)(g:Nat)(v:Value)(t:Tk):ib.qB (fun j=>j=g) W (qgO W g t v) :=
 (((((((ib.qB.refl (fun j=>j=g) W).setCell ⟨g,0,none⟩ _ (.inl rfl)).setCell ⟨g,1,none⟩ _ (.inl rfl)).setCell ⟨g,2,none⟩ _ (.inl rfl)).setCell ⟨g,3,none⟩ _ (.inl rfl)).setCell ⟨g,4,none⟩ _ (.inl rfl)).setCell ⟨g,5,none⟩ _ (.inl rfl)).setCell ⟨g,6,none⟩ _ (.inl rfl)
theorem q2d{W:World}{g:Nat}(t:Tk)(A:Option Addr)(c:Nat)(h:qd W g 82 (r9 t A t.qu.length c)):(loadVar 82 ⟨g,0,none⟩).run prog W=.ok (.agg (r9 t A t.qu.length c)) W :=
 run_loadVar_row W g 82 82 _ (0,0) _ h underlying82 rfl (by kernel_rfl)
theorem qsG{w:World}{A:Option Addr}{l:List Int}(h:ib.qL w A l):q0p w A l:=fun i hi=>by
 obtain⟨b,o,h1,h2,h3,_⟩:=h i hi;exact⟨b,o,h1,h2,h3⟩
def tz:Array Value:=#[.int .u64 0,.int .u64 0,.int .u64 0,.int .u64 0,.int .i64 0,.int .i64 0,.slice none 0 0]
def q2e (W:World)(g:Nat):World :=
 ((((((W.setCell ⟨g,0,none⟩ (.int .u64 0)).setCell ⟨g,1,none⟩ (.int .u64 0)).setCell ⟨g,2,none⟩ (.int .u64 0)).setCell ⟨g,3,none⟩ (.int .u64 0)).setCell ⟨g,4,none⟩ (.int .i64 0)).setCell ⟨g,5,none⟩ (.int .i64 0)).setCell ⟨g,6,none⟩ (.slice none 0 0)
theorem qdU{W:World}{g:Nat}(h:qd W g 82 tz):qd (q2e W g) g 82 tz:=by
 have h9:=((((((h.qo 0 (.int .u64 0)).qo 1 (.int .u64 0)).qo 2 (.int .u64 0)).qo 3 (.int .u64 0)).qo 4 (.int .i64 0)).qo 5 (.int .i64 0)).qo 6 (.slice none 0 0);simp only[tz,List.setIfInBounds_toArray,List.set_cons_succ,List.set_cons_zero]at h9;exact h9
theorem rk {W0 W:World}{g:Nat}(h:Below W0.heap.size W0 W)(hg:W0.heap.size≤g):Below W0.heap.size W0 (q2e W g) :=
 ((((((h.setCell (p:=⟨g,0,none⟩) hg _).setCell (p:=⟨g,1,none⟩) hg _).setCell (p:=⟨g,2,none⟩) hg _).setCell (p:=⟨g,3,none⟩) hg _).setCell (p:=⟨g,4,none⟩) hg _).setCell (p:=⟨g,5,none⟩) hg _).setCell (p:=⟨g,6,none⟩) hg _
theorem qu5{W:World}{g:Nat}(h:qd W g 82 tz):(loadVar 82 ⟨g,0,none⟩).run prog W=.ok (.agg tz) W :=
 run_loadVar_row W g 82 82 _ (0,0) _ h underlying82 rfl (by kernel_rfl)
theorem q6Q:tkV (tf yB) none 0 0=.agg tz:=by
 simp only[tkV,tf,yB,tz];simp
theorem eI {w w':World}(hb:Below w.heap.size w w'):cY yB w (.returned (.agg tz)) w' :=
 ⟨none,0,by rw[← q6Q];rfl,fun i h=>absurd h (by simp[yB]),ib.wb.none _ _,hb⟩
theorem qgP(w:World):Calls prog 41 #[.pointer none] w (cY yB w):=by
 have hb:=(Below.refl _ w).alloc (Nat.le_refl _) (.cells tz 82);have hk:=qd.new w 82 tz;obtain⟨W,hW⟩:=QE (w.alloc (.cells tz 82));rw[hW]at hb hk;have HE:=QH (eI (rk hb (Nat.le_refl _)));have HL:=QH (qu5 (qdU hk));have q0:=hk.cell 0;have q1:=hk.cell 1;have q2:=hk.cell 2;have q3:=hk.cell 3;have q4:=hk.cell 4;have q5:=hk.cell 5;have q6:=hk.cell 6;have f0:=hk.frozen 0;have f1:=hk.frozen 1;have f2:=hk.frozen 2;have f3:=hk.frozen 3;have f4:=hk.frozen 4;have f5:=hk.frozen 5;have f6:=hk.frozen 6;have lS:=hk.lt;simp only[tz,QA,QB,QC]at q0 q1 q2 q3 q4 q5 q6;unfold tz at hW;clear hb hk;go_enter func41,ntmps41;go_upto_region 1 with fail;try rw[hW]
 clear hW;go_wp2_with fail;exact bodyPost_ret (v:=.agg tz) (im.zh rfl _ _ _ ⟨w.heap.size,0,none⟩ _ rfl HL.out) rfl HE.out
theorem iC {o:Nat→Prop}{w:World}{v pd:Nat}{m:Mt}{l:Bool}(h:ak o w v pd m l):Calls prog 41 #[pt v] w (cY m.tok w):=by
 have hb:=(Below.refl _ w).alloc (Nat.le_refl _) (.cells tz 82);have hk:=qd.new w 82 tz;obtain⟨W,hW⟩:=QE (w.alloc (.cells tz 82));rw[hW]at hb hk;obtain⟨A0,A1,A2,c0,c1,c2,hA0⟩:=h;have hA:=hA0.below hb;have HA:=QH hA;have HK:=QH hk;have HB:=QH hb;have HTN:=QH (qgg (w:=W) (A0:=A0) (A1:=A1) (A2:=A2) (c0:=c0) (c1:=c1) (c2:=c2) m);obtain⟨q,hq⟩:=QE (decide (m.tok.target=(0,0)));rw[hq]at HTN;have HQ:=QH hq;obtain⟨klt,k0,k1,k2,k3,k4,k5,k6,k7,k8,k9,cT⟩:=hA.cells;unfold zJ at HTN;unfold tz at hW;clear hb hk hA hA0 hq;go_enter func41,ntmps41;go_upto_region 1 with fail;try rw[hW]
 clear hW;go_wp2_with fail;refine HTN.out.mono ?_;rintro e W1 ⟨rfl,hb1⟩;have qT:=QH (qa HB.out hb1);have zX:=HK.out.below hb1;have bA:=QH zX;have fY:=QH (HA.out.below hb1);have rM:Hid (w.heap.size<W.heap.size∧W.heap.size≤W1.heap.size):=⟨HK.out.lt,hb1.size⟩;clear hb1 HTN k0 k1 k2 k3 k4 k5 k6 k7 k8 k9 cT klt HA HK HB;have q0:=zX.cell 0;have q1:=zX.cell 1;have q2:=zX.cell 2;have q3:=zX.cell 3;have q4:=zX.cell 4;have q5:=zX.cell 5;have q6:=zX.cell 6;have f0:=zX.frozen 0;have f1:=zX.frozen 1;have f2:=zX.frozen 2;have f3:=zX.frozen 3;have f4:=zX.frozen 4;have f5:=zX.frozen 5;have f6:=zX.frozen 6;have lS:=zX.lt;simp only[tz,QA,QB,QC]at q0 q1 q2 q3 q4 q5 q6;clear zX;cases q with
 | true =>
  have ua:=QH (fY.out.tk (of_decide_eq_true HQ.out));have HE:=QH (eI (rk qT.out (Nat.le_refl _)));have HL:=QH (qu5 (qdU bA.out));go_wp2_with fail;refine bodyPost_ret (v:=.agg tz) (im.zh rfl _ _ _ ⟨w.heap.size,0,none⟩ _ rfl HL.out) rfl ?_;rw[ua.out];exact HE.out
 | false =>
  obtain⟨klt,k0,k1,k2,k3,k4,k5,k6,k7,k8,k9,cT⟩:=fY.out.cells;have hb2:=(Below.refl _ W1).alloc (Nat.le_refl _) (.cells tz 82);have hk2:=qd.new W1 82 tz;obtain⟨W2,hW2⟩:=QE (W1.alloc (.cells tz 82));rw[hW2]at hb2 hk2;have hb3:=rj (v:=.slice A2 m.tok.qu.length c2) (t:=m.tok) hb2 (Nat.le_refl _);have hk3:=qdT m.tok A2 c2 hk2;have s0:=hk2.cell 0;have s1:=hk2.cell 1;have s2:=hk2.cell 2;have s3:=hk2.cell 3;have s4:=hk2.cell 4;have s5:=hk2.cell 5;have s6:=hk2.cell 6;have g0:=hk2.frozen 0;have g1:=hk2.frozen 1;have g2:=hk2.frozen 2;have g3:=hk2.frozen 3;have g4:=hk2.frozen 4;have g5:=hk2.frozen 5;have g6:=hk2.frozen 6;have dx:=hk2.lt;simp only[tz,QA,QB,QC]at s0 s1 s2 s3 s4 s5 s6;have zB:=QH (qa qT.out hb3);have su:=QH hk3;have iD:=QH (bA.out.below hb3);have HI3:=QH (fY.out.tab.qu.at_.below hb3);have HIM:=QH fY.out.sz.qu;have ie:Hid (w.heap.size<W1.heap.size∧W1.heap.size<(qgO W2 W1.heap.size m.tok (.slice A2 m.tok.qu.length c2)).heap.size):=⟨bA.out.lt,hk3.lt⟩;unfold tz at hW2;clear hb2 hk2 hb3 hk3;go_upto_region 4 with fail;try rw[hW2]
  show Code.wp _ _ _ _ (qgO W2 W1.heap.size m.tok (.slice A2 m.tok.qu.length c2));obtain⟨W3,hW3⟩:=QE (qgO W2 W1.heap.size m.tok (.slice A2 m.tok.qu.length c2));rw[hW3]at zB su iD HI3 ie ⊢;clear hW3 hW2 s0 s1 s2 s3 s4 s5 s6 g0 g1 g2 g3 g4 g5 g6 dx q0 q1 q2 q3 q4 q5 q6 f0 f1 f2 f3 f4 f5 f6 lS k0 k1 k2 k3 k4 k5 k6 k7 k8 k9 cT klt;have HC:=QH (gy A2 c2 m.tok.qu W3 HI3.out HIM.out);have q6:=su.out.cell 6;have lS:=su.out.lt;simp only[r9,QA,QB,QC]at q6;go_wp2_with fail;refine HC.out.mono ?_;rintro e W4 cU;obtain rfl:=cU.1;have hb4:=cU.2.2;have hs4:=cU.sl HI3.out.ints.mem (fun j=>j=W3.heap.size) rfl;have hk4:=su.out.below hb4;have hr4:=iD.out.below hb4;have hl4:=ie.out;have hz4:=hb4.size;have HK5:Hid (qd (W4.setCell ⟨W1.heap.size,6,none⟩ (.slice (some ⟨W3.heap.size,0,none⟩) m.tok.qu.length m.tok.qu.length)) W1.heap.size 82 (r9 m.tok (some ⟨W3.heap.size,0,none⟩) m.tok.qu.length m.tok.qu.length)):=by
   have:=hk4.qo 6 (.slice (some ⟨W3.heap.size,0,none⟩) m.tok.qu.length m.tok.qu.length);simpa[Hid,r9]using this
  have uZ:Hid (qd (W4.setCell ⟨W1.heap.size,6,none⟩ (.slice (some ⟨W3.heap.size,0,none⟩) m.tok.qu.length m.tok.qu.length)) w.heap.size 82 tz):=hr4.of_block (qy _ _ _ _ _ (by omega));have jJ:Hid (Below w.heap.size w (W4.setCell ⟨W1.heap.size,6,none⟩ (.slice (some ⟨W3.heap.size,0,none⟩) m.tok.qu.length m.tok.qu.length))):=(qa zB.out hb4).setCell (p:=⟨W1.heap.size,6,none⟩) (by show w.heap.size≤W1.heap.size;omega) _;have mA:Hid (bw (fun j=>j=W3.heap.size) (W4.setCell ⟨W1.heap.size,6,none⟩ (.slice (some ⟨W3.heap.size,0,none⟩) m.tok.qu.length m.tok.qu.length)) (some ⟨W3.heap.size,0,none⟩) m.tok.qu m.tok.qu.length):=hs4.stay (ar fun j hj=>by omega);have k6:=hk4.cell 6;have f6:=hk4.frozen 6;have jX:=hk4.lt;simp only[r9,QA,QB,QC]at k6;have q2f:Hid (W3.heap.size<(W4.setCell ⟨W1.heap.size,6,none⟩ (.slice (some ⟨W3.heap.size,0,none⟩) m.tok.qu.length m.tok.qu.length)).heap.size):=by
   have:=cU.2.1.lt;simpa[Hid,World.setCell]using this
  obtain⟨W5,fZ⟩:=QE (W4.setCell ⟨W1.heap.size,6,none⟩ (.slice (some ⟨W3.heap.size,0,none⟩) m.tok.qu.length m.tok.qu.length));rw[fZ]at HK5 uZ jJ mA q2f;clear cU hb4 hs4 hk4 hr4 hl4 hz4 HC q6 lS;go_upto_region 5 with fail;try rw[fZ]
  clear fZ k6 f6 jX;have j0:=HK5.out.cell 0;have j1:=HK5.out.cell 1;have j2:=HK5.out.cell 2;have j3:=HK5.out.cell 3;have j4:=HK5.out.cell 4;have j5:=HK5.out.cell 5;have j6:=HK5.out.cell 6;have jlt:=HK5.out.lt;simp only[r9,QA,QB,QC]at j0 j1 j2 j3 j4 j5 j6;have q0:=uZ.out.cell 0;have q1:=uZ.out.cell 1;have q2:=uZ.out.cell 2;have q3:=uZ.out.cell 3;have q4:=uZ.out.cell 4;have q5:=uZ.out.cell 5;have q6:=uZ.out.cell 6;have f0:=uZ.out.frozen 0;have f1:=uZ.out.frozen 1;have f2:=uZ.out.frozen 2;have f3:=uZ.out.frozen 3;have f4:=uZ.out.frozen 4;have f5:=uZ.out.frozen 5;have f6:=uZ.out.frozen 6;have lS:=uZ.out.lt;simp only[tz,QA,QB,QC]at q0 q1 q2 q3 q4 q5 q6;have dz:=rj (v:=.slice (some ⟨W3.heap.size,0,none⟩) m.tok.qu.length m.tok.qu.length) (t:=m.tok) jJ.out (Nat.le_refl _);have HL:=QH (q2d m.tok (some ⟨W3.heap.size,0,none⟩) m.tok.qu.length (qdT m.tok (some ⟨W3.heap.size,0,none⟩) m.tok.qu.length uZ.out));have HE:Hid (cY m.tok w (.returned (.agg (r9 m.tok (some ⟨W3.heap.size,0,none⟩) m.tok.qu.length m.tok.qu.length))) (qgO W5 w.heap.size m.tok (.slice (some ⟨W3.heap.size,0,none⟩) m.tok.qu.length m.tok.qu.length))):=by
   have hbt:=qpb W5 w.heap.size (.slice (some ⟨W3.heap.size,0,none⟩) m.tok.qu.length m.tok.qu.length) m.tok;have hs6:=mA.out.stay (wI.nG hbt (fun j hj=>by have:=ie.out;show ¬ j=w.heap.size;omega));refine⟨some ⟨W3.heap.size,0,none⟩,m.tok.qu.length,rfl,qsG hs6.at_.ints,fun b o e=>?_,dz⟩;simp only[Option.some.injEq,Addr.mk.injEq,and_true]at e;have h1:=ie.out;have h2:=mA.out;have h3:=hbt.size;refine⟨by omega,?_⟩;have:=q2f.out;omega
  clear dz;go_wp2_with fail;exact bodyPost_ret (v:=.agg (r9 m.tok (some ⟨W3.heap.size,0,none⟩) m.tok.qu.length m.tok.qu.length)) (im.zh rfl _ _ _ ⟨w.heap.size,0,none⟩ _ rfl HL.out) rfl HE.out
end Go.Proofs.YtdpbdkacngaemaaGreatDoor.vt.pg
namespace Go.Proofs.YtdpbdkacngaemaaGreatDoor
open _root_.Go.Proofs.Tryz Go Go.RowKit
end Go.Proofs.YtdpbdkacngaemaaGreatDoor
namespace Go.Proofs.YtdpbdkacngaemaaGreatDoor.jr
open _root_.Go.Proofs.Tryz Go Go.RowKit dk wi
structure q2g where
 at_:Int
 c:UInt8
 short:Bool
def qbH (w:World)(a:Option Addr)(zs:List q2g):Prop :=
 ∀i (h:i<zs.length),∃b o,a=some ⟨b,o,none⟩∧b<w.heap.size∧w.cell? ⟨b,o+i*3,none⟩=some (.int .i64 zs[i].at_)∧w.cell? ⟨b,o+i*3+1,none⟩=some (.int .u8 (zs[i].c.toNat:Int))∧w.cell? ⟨b,o+i*3+2,none⟩=some (.bool zs[i].short)∧qG zs[i].at_
theorem qk8(n:Nat)(k:Int):dk.look (List.replicate n none) k=none:=by
 unfold dk.look;split
 ·rw[List.getElem?_replicate];split <;> rfl
 ·rfl
theorem JJ.n{tgt:Int→Bt}{d:DD}(h:JJ 200 tgt d):d.n=200:=h.rb.1
theorem JJ.now{tgt:Int→Bt}{d:DD}(h:JJ 200 tgt d):d.now=d.base:=by unfold DD.now;rw[h.more];rfl
theorem JJ.read{tgt:Int→Bt}{d:DD}(h:JJ 200 tgt d)(k:Int)(h0:145≤k)(h1:k<200):d.read k=(tgt k,0):=by
 unfold DD.read;have:d.has k=true:=by
  unfold DD.has;rw[h.n];simp;omega
 rw[if_neg (by rw[h.on];simp),if_neg (by rw[this];simp),h.now];exact congrArg (fun x=>(x,(0:Int))) (h.is k h0)
section
variable {w:World} {B p:Nat} {d:DD}
end
end Go.Proofs.YtdpbdkacngaemaaGreatDoor.jr
namespace Go.Proofs.YtdpbdkacngaemaaGreatDoor.jr
open _root_.Go.Proofs.Tryz Go Go.RowKit dk wi
theorem JJ.arm{tgt:Int→Bt}{d:DD}(h:JJ 200 tgt d)(f:Int):JJ 200 tgt (d.arm f):=⟨⟨h.on,h.more,h.room,h.rb⟩,h.is⟩
theorem RJ.arm{tgt:Int→Bt}{d:DD}(h:RJ 200 tgt d)(f:Int):RJ 200 tgt (d.arm f):=⟨h.on,h.more,h.room,h.rb⟩
theorem RJ.n{tgt:Int→Bt}{d:DD}(h:RJ 200 tgt d):d.n=200:=h.rb.1
section
variable {w:World} {G:Nat→Prop} {p:Nat} {d:DD}
end
theorem lY.block{w:World}{B:Nat}{A:Option Addr}{n c:Nat}{l:List Wr}(h:lY w B (.slice A n c) l):∀b o,A=some ⟨b,o,none⟩→B≤b∧b<w.heap.size:=by
 intro b o hA;subst hA;rcases h.2 with⟨hv,_⟩|⟨g,cap,cur,hv,hg,hh,_⟩
 ·cases hv
 ·simp only[Value.slice.injEq,Option.some.injEq,Addr.mk.injEq]at hv;obtain⟨⟨rfl,_⟩,_⟩:=hv;exact⟨hg,(Array.getElem?_eq_some_iff.1 hh).1⟩
theorem qbH.below{w w':World}{a:Option Addr}{zs:List q2g}(h:qbH w a zs)(hb:Below w.heap.size w w'):qbH w' a zs:=by
 intro i hi;obtain⟨b,o,h1,h2,h3,h4,h5,h6⟩:=h i hi;refine⟨b,o,h1,Nat.lt_of_lt_of_le h2 hb.size,?_,?_,?_,h6⟩
 ·rw[hb.cell (p:=⟨b,o+i*3,none⟩) h2];exact h3
 ·rw[hb.cell (p:=⟨b,o+i*3+1,none⟩) h2];exact h4
 ·rw[hb.cell (p:=⟨b,o+i*3+2,none⟩) h2];exact h5
end Go.Proofs.YtdpbdkacngaemaaGreatDoor.jr
namespace Go.Proofs.YtdpbdkacngaemaaGreatDoor.jr
open _root_.Go.Proofs.Tryz Go Go.RowKit dk wi
def Rest (d:DD):Prop:=d.n=200∧d.more=[]
theorem JJ.rest{tgt:Int→Bt}{d:DD}(h:JJ 200 tgt d):Rest d:=⟨h.n,h.more⟩
theorem RJ.rest{tgt:Int→Bt}{d:DD}(h:RJ 200 tgt d):Rest d:=⟨h.n,h.more⟩
end Go.Proofs.YtdpbdkacngaemaaGreatDoor.jr
namespace Go.Proofs.YtdpbdkacngaemaaGreatDoor.jr
open _root_.Go.Proofs.Tryz dk wi
def kb0:DD:=DD.new 400 400
def kb1:DD:=(kE kb0).2
end Go.Proofs.YtdpbdkacngaemaaGreatDoor.jr
namespace Go.Proofs.YtdpbdkacngaemaaGreatDoor.jr
open _root_.Go.Proofs.Tryz Go Go.RowKit dk wi
section
variable {most:Nat} {w:World} {B p:Nat} {d:DD}
end
end Go.Proofs.YtdpbdkacngaemaaGreatDoor.jr
namespace Go.Proofs.YtdpbdkacngaemaaGreatDoor.vt.pg
open _root_.Go.Proofs.Tryz Go Go.RowKit Go.Sort ib mt im sp
theorem rp {W:World}{g:Nat}{v0 v1 v2 u0 u1 u2:Value}{t t':Tk}{ty:TypeId}(h:qd W g ty (mC u0 u1 u2 t')):qd (xO W g v0 v1 v2 t) g ty (mC v0 v1 v2 t):=by
 have h9:=((((((((h.qo 0 v0).qo 1 v1).qo 2 (.int .u64 (t.base.1:Int))).qo 3 (.int .u64 (t.base.2:Int))).qo 4 (.int .u64 (t.target.1:Int))).qo 5 (.int .u64 (t.target.2:Int))).qo 6 (.int .i64 t.next)).qo 7 (.int .i64 t.all)).qo 8 v2;simp only[mC,List.setIfInBounds_toArray,List.set_cons_succ,List.set_cons_zero]at h9;exact h9
theorem qsH{W:World}{g:Nat}{v0 v1 v2:Value}{t:Tk}(h:qd W g 96 (mC v0 v1 v2 t)):(loadVar 96 ⟨g,0,none⟩).run prog W=.ok (.agg (mC v0 v1 v2 t)) W :=
 run_loadVar_row W g 96 96 _ (0,0) _ h underlying96 rfl (by kernel_rfl)
theorem qdV{w:World}(A0 A1 A2:Option Addr)(n0 n1 n2 c0 c1 c2:Nat)(t:Tk):Calls prog 54 #[.agg (mC (.slice A0 n0 c0) (.slice A1 n1 c1) (.slice A2 n2 c2) t)] w fun e w'=>e=.returned (.agg (mC (.slice A0 n0 c0) (.slice A1 n1 c1) (.slice A2 n2 c2) t))∧Below w.heap.size w w':=by
 have hb1:=(Below.refl _ w).alloc (Nat.le_refl _) (.cells (mC (.slice A0 n0 c0) (.slice A1 n1 c1) (.slice A2 n2 c2) t) 103);have zX:=qd.new w 103 (mC (.slice A0 n0 c0) (.slice A1 n1 c1) (.slice A2 n2 c2) t);obtain⟨W1,hW1⟩:=QE (w.alloc (.cells (mC (.slice A0 n0 c0) (.slice A1 n1 c1) (.slice A2 n2 c2) t) 103));rw[hW1]at hb1 zX;have hb2:=(Below.refl _ W1).alloc (Nat.le_refl _) (.cells (mt.pg.mZ (.slice none 0 0) (.slice none 0 0)) 96);have hk2:=qd.new W1 96 (mt.pg.mZ (.slice none 0 0) (.slice none 0 0));obtain⟨W2,hW2⟩:=QE (W1.alloc (.cells (mt.pg.mZ (.slice none 0 0) (.slice none 0 0)) 96));rw[hW2]at hb2 hk2;have rq:=zX.below hb2;have m0:=rq.cell 0;have m1:=rq.cell 1;have m2:=rq.cell 2;have m3:=rq.cell 3;have m4:=rq.cell 4;have m5:=rq.cell 5;have m6:=rq.cell 6;have m7:=rq.cell 7;have m8:=rq.cell 8;have hml:=rq.lt;have a0:=hk2.cell 0;have a1:=hk2.cell 1;have a2:=hk2.cell 2;have a3:=hk2.cell 3;have a4:=hk2.cell 4;have a5:=hk2.cell 5;have a6:=hk2.cell 6;have a7:=hk2.cell 7;have a8:=hk2.cell 8;have f0:=hk2.frozen 0;have f1:=hk2.frozen 1;have f2:=hk2.frozen 2;have f3:=hk2.frozen 3;have f4:=hk2.frozen 4;have f5:=hk2.frozen 5;have f6:=hk2.frozen 6;have f7:=hk2.frozen 7;have f8:=hk2.frozen 8;have lI:=hk2.lt;simp only[mC,mt.pg.mZ,QA,QB,QC]at m0 m1 m2 m3 m4 m5 m6 m7 m8 a0 a1 a2 a3 a4 a5 a6 a7 a8;have hres:qd W2 W1.heap.size 96 (mC bV bV bV yB):=hk2;have HF:Hid (qd (xO W2 W1.heap.size (.slice A0 n0 c0) (.slice A1 n1 c1) (.slice A2 n2 c2) t) W1.heap.size 96 (mC (.slice A0 n0 c0) (.slice A1 n1 c1) (.slice A2 n2 c2) t)∧Below w.heap.size w (xO W2 W1.heap.size (.slice A0 n0 c0) (.slice A1 n1 c1) (.slice A2 n2 c2) t)) :=
  ⟨rp hres,dP (qa hb1 hb2) (by have:=zX.lt;omega)⟩
 unfold mC at hW1 ⊢;unfold mt.pg.mZ at hW2;clear hb1 zX hb2 hk2 rq hres;go_enter func54,ntmps54;go_upto_region 1 with fail;try rw[hW1]
 try rw[hW2]
 clear hW1 hW2;go_wp2_with fail;show bodyPost _ _ _ _ _ (xO W2 W1.heap.size (.slice A0 n0 c0) (.slice A1 n1 c1) (.slice A2 n2 c2) t);have hf:=HF.out;obtain⟨WE,mR⟩:=QE (xO W2 W1.heap.size (.slice A0 n0 c0) (.slice A1 n1 c1) (.slice A2 n2 c2) t);rw[mR]at hf ⊢;exact bodyPost_ret (v:=.agg (mC (.slice A0 n0 c0) (.slice A1 n1 c1) (.slice A2 n2 c2) t)) (im.zh rfl _ _ _ ⟨W1.heap.size,0,none⟩ _ rfl (qsH hf.1)) rfl ⟨rfl,hf.2⟩
theorem qpc{b N:Nat}{m:Mt}(h:jK b N m)(h0:m.tok.target=(0,0)):m.tok=yB:=by
 rcases h.tok with ht|ht
 ·exact ht
 ·exfalso;have e2:=ht.2.1;rw[h0]at e2;unfold mt.above at e2;simp at e2
theorem qdW{o:Nat→Prop}{w:World}{pd N b:Nat}{d:DD}{t:Tg}{m:Mt}(h:dk.zK 1000 w o pd d)(ik:xY w)(hog:¬ o gN)(hJ:jr.RJ N t d)(hf:d.qz=0)(hR:xK b N t m) :
    Calls prog 11 #[pt pd] w fun e w'=>∃v d' sD cS,e=.returned (.tuple #[pt v,.int .i64 0])∧VP ak w' sD cS v pd d' m false∧jr.JJ N t d'∧d'.qz=0∧ib.qB o w w'∧(∀j,sD j→w.heap.size≤j)∧∀j,cS j→o j∨w.heap.size≤j:=by
 have hdn:d.n=N:=hJ.rb.1;have qu6:145<d.n:=by rw[hdn];have:=hR.N0;omega
 have HRC:=QH (jr.sJ jr.qoL h qu6 ik (by rw[hJ.more];decide) (by decide));have HRA:Hid ((jr.xn d).1=0∧jr.JJ N t (jr.xn d).2∧(jr.xn d).2.qz=0):=by
  rcases jr.qda hJ (by omega)with⟨h1,h2,h3,_⟩|⟨_,_,h3,_⟩
  ·exact⟨h1,h2,h3 hf⟩
  ·exact absurd hf h3
 obtain⟨RC,hRC⟩:=QE (jr.xn d);rw[hRC]at HRC HRA;obtain⟨r,d1⟩:=RC;have hr0:r=0:=HRA.out.1;subst hr0;have dv:=QH ik;have HOG:=QH hog;have HR:=QH hR;clear h hJ hf hR hRC hdn qu6 ik hog;go_enter func11,ntmps11;go_wp2_with fail;refine HRC.out.mono ?_;rintro e W1 ⟨rfl,o2,hd1,hb1,hg1⟩;have HD1:=QH hd1;have qT:Hid (ib.qB o w W1):=oX hb1;have HG1:Hid (∀j,o2 j→o j∨w.heap.size≤j):=hg1;have qk9:xY W1:=wH dv.out qT.out.size (qT.out.block gN (xI dv.out) HOG.out);have q2h:=QH qk9;have hR:=HR.out;have htx:=qg1 hd1 qk9 HRA.out.2.1 hR.N0 (u:=zD m) (by have:=hR.ok.size hR.N1;omega) (xW hR.ok hR.N1).2 hR.home;have HTX:=QH htx;clear hd1 hb1 hg1 qk9 htx HRC;go_wp2_with fail;refine HTX.out.mono ?_;rintro e W2 ⟨rfl,hb2⟩;have qC:=QH hb2;have hdc:=qrH (str (zD m)) W2 (by rw[qQ];have:=hR.ok.size hR.N1;omega) m (by rw[zC];exact hR.ok.back hR.N1);have HDC:=QH hdc;obtain⟨S,hS⟩:=QE (str (zD m));rw[hS]at HDC ⊢;clear hb2 hdc hS HTX hR;go_wp2_with fail;refine HDC.out.mono ?_;rintro e W3 ⟨A0,A1,A2,c0,c1,c2,rfl,hT,hb3⟩;have nN:=QH hT.bound;have zB:=QH hb3;have hb4:=(Below.refl _ W3).alloc (Nat.le_refl _) (.cells (mt.pg.mZ (.slice none 0 0) (.slice none 0 0)) 103);have hk4:=qd.new W3 103 (mt.pg.mZ (.slice none 0 0) (.slice none 0 0));obtain⟨W4,ic⟩:=QE (W3.alloc (.cells (mt.pg.mZ (.slice none 0 0) (.slice none 0 0)) 103));rw[ic]at hb4 hk4;have a0:=hk4.cell 0;have a1:=hk4.cell 1;have a2:=hk4.cell 2;have a3:=hk4.cell 3;have a4:=hk4.cell 4;have a5:=hk4.cell 5;have a6:=hk4.cell 6;have a7:=hk4.cell 7;have a8:=hk4.cell 8;have f0:=hk4.frozen 0;have f1:=hk4.frozen 1;have f2:=hk4.frozen 2;have f3:=hk4.frozen 3;have f4:=hk4.frozen 4;have f5:=hk4.frozen 5;have f6:=hk4.frozen 6;have f7:=hk4.frozen 7;have f8:=hk4.frozen 8;have lI:=hk4.lt;simp only[mt.pg.mZ,QA,QB,QC]at a0 a1 a2 a3 a4 a5 a6 a7 a8;have hres:qd W4 W3.heap.size 103 (mC bV bV bV yB):=hk4;have HF:Hid (qd (xO W4 W3.heap.size (.slice A0 m.live.length c0) (.slice A1 m.qc.length c1) (.slice A2 m.tok.qu.length c2) m.tok) W3.heap.size 103 (mC (.slice A0 m.live.length c0) (.slice A1 m.qc.length c1) (.slice A2 m.tok.qu.length c2) m.tok)∧Below W3.heap.size W3 (xO W4 W3.heap.size (.slice A0 m.live.length c0) (.slice A1 m.qc.length c1) (.slice A2 m.tok.qu.length c2) m.tok)) :=
  ⟨rp hres,dP hb4 (Nat.le_refl _)⟩
 unfold mt.pg.mZ at ic;unfold zJ;clear hb3 hT hb4 hk4 hres HDC;go_upto_region 8 with fail;try rw[ic]
 show Code.wp _ _ _ _ (xO W4 W3.heap.size (.slice A0 m.live.length c0) (.slice A1 m.qc.length c1) (.slice A2 m.tok.qu.length c2) m.tok);obtain⟨W5,fZ⟩:=QE (xO W4 W3.heap.size (.slice A0 m.live.length c0) (.slice A1 m.qc.length c1) (.slice A2 m.tok.qu.length c2) m.tok);rw[fZ]at HF ⊢;clear ic fZ a0 a1 a2 a3 a4 a5 a6 a7 a8 f0 f1 f2 f3 f4 f5 f6 f7 f8 lI;have hblk:=HF.out.1;have b35:=HF.out.2;have qkA:=QH (qa (qa qC.out zB.out) b35);have nO:=QH (nN.out.below b35);have HD5:=QH (HD1.out.below qkA.out);have k0:=hblk.cell 0;have k1:=hblk.cell 1;have k2:=hblk.cell 2;have k3:=hblk.cell 3;have k4:=hblk.cell 4;have k5:=hblk.cell 5;have k6:=hblk.cell 6;have k7:=hblk.cell 7;have k8:=hblk.cell 8;have klt:=hblk.lt;simp only[mC,QA,QB,QC]at k0 k1 k2 k3 k4 k5 k6 k7 k8;have e0:=fun d os=>cell_regrown k0 d os;have e1:=fun d os=>cell_regrown k1 d os;have e2:=fun d os=>cell_regrown k2 d os;have e3:=fun d os=>cell_regrown k3 d os;have e4:=fun d os=>cell_regrown k4 d os;have e5:=fun d os=>cell_regrown k5 d os;have e6:=fun d os=>cell_regrown k6 d os;have e7:=fun d os=>cell_regrown k7 d os;have e8:=fun d os=>cell_regrown k8 d os;have hR:=HR.out;have hlen:m.live.length=b:=hR.ok.len;have hdn:d1.n=N:=HRA.out.2.1.rb.1;have cL:∀b os,Calls prog 43 #[pt pd] (grow (redrawn W5 b) os) fun e w''=>e=.returned (.int .i64 (N:Int))∧∃q:Regrown,w''=grow (redrawn W5 q.d) q.os :=
  fun b os=>Calls.regrown_of ((pG (HD5.out.below (below_regrown W5 b os))).mono fun e w' hx=>⟨by rw[← hdn];exact hx.1,by rw[← hx.2];exact Below.refl _ _⟩)
 have cC:∀b os,Calls prog 53 #[.agg (zJ A0 A1 A2 c0 c1 c2 m),.int .i64 (m.live.length:Int),.int .i64 (N:Int)] (grow (redrawn W5 b) os) fun e w''=>e=.returned (.int .i64 0)∧∃q:Regrown,w''=grow (redrawn W5 q.d) q.os :=
  fun b os=>by
   have hc:=mt.pg.aU (.agg (zJ A0 A1 A2 c0 c1 c2 m)) m (m.live.length:Int) (N:Int) (grow (redrawn W5 b) os) ⟨A0,A1,A2,c0,c1,c2,rfl,(nO.out.below (below_regrown W5 b os)).mt⟩ (nc hR.ok) (by unfold qG;have:=hR.ok.b8;omega) (by unfold qG;have:=hR.N1;omega);have h0:xx m (m.live.length:Int) (N:Int)=0:=by rw[hlen];exact hR.ok.check
   rw[h0]at hc;exact Calls.regrown_of hc
 have q2i:=QH hblk;unfold zJ at cC;clear hblk b35 hlen hdn hR;refine wp_region_quiet_below vU (by kernel_rfl) ?_;repeat (any_goals (first|go_big_quiet_step (first|exact cL _ _|exact cC _ _)|quiet_step (first|exact cL _ _|exact cC _ _)))
 refine wpQuiet_nil ?_;intro _ hw';obtain⟨⟨dq,osq⟩,hw''⟩:=hw';subst hw'';have dz:=below_regrown W5 dq osq;have dQ:=QH dz;have hblk:=q2i.out.below dz;clear dz e0 e1 e2 e3 e4 e5 e6 e7 e8 k0 k1 k2 k3 k4 k5 k6 k7 k8 klt cL cC q2i;generalize grow (redrawn W5 dq) osq=W6 at *;have k0:=hblk.cell 0;have k1:=hblk.cell 1;have k2:=hblk.cell 2;have k3:=hblk.cell 3;have k4:=hblk.cell 4;have k5:=hblk.cell 5;have k6:=hblk.cell 6;have k7:=hblk.cell 7;have k8:=hblk.cell 8;have klt:=hblk.lt;simp only[mC,QA,QB,QC]at k0 k1 k2 k3 k4 k5 k6 k7 k8;have HTO:=QH (qdV (w:=W6) A0 A1 A2 m.live.length m.qc.length m.tok.qu.length c0 c1 c2 m.tok);unfold mC at HTO;clear hblk;go_wp2_with fail;refine HTO.out.mono ?_;rintro e W7 ⟨rfl,hb7⟩;have HB7:=QH (qa dQ.out hb7);have hb8:=(Below.refl _ W7).alloc (Nat.le_refl _) (.cells (vC A0 A1 A2 c0 c1 c2 m pd false) 115);have hk8:=qd.new W7 115 (vC A0 A1 A2 c0 c1 c2 m pd false);obtain⟨W8,rL⟩:=QE (W7.alloc (.cells (vC A0 A1 A2 c0 c1 c2 m pd false) 115));rw[rL]at hb8 hk8;have HB8:=QH (qa HB7.out hb8);have qkB:=QH (qa qkA.out HB8.out);have HK8:=QH hk8;have tK:Hid (W1.heap.size≤W2.heap.size∧W2.heap.size≤W3.heap.size∧W3.heap.size≤W5.heap.size∧W5.heap.size≤W7.heap.size∧W7.heap.size<W8.heap.size):=⟨qC.out.size,zB.out.size,HF.out.2.size,HB7.out.size,hk8.lt⟩;unfold vC at rL;clear hb7 hb8 hk8 HTO k0 k1 k2 k3 k4 k5 k6 k7 k8 klt;go_wp2_with fail;try rw[rL]
 clear rL;go_ret2;have hR:=HR.out;have hsz:=tK.out;have h1s:=qT.out.size;have xB:∀j,o2 j→j<W1.heap.size:=fun j hj=>iT HD1.out j hj;have hgn:gN<w.heap.size:=xI dv.out;have hg2:¬ o2 gN:=fun h=>by
  rcases HG1.out gN h with h|h
  ·exact HOG.out h
  ·omega
 refine⟨W7.heap.size,d1,fun j=>w.heap.size≤j∧j<W8.heap.size∧¬ o2 j,o2,rfl,⟨⟨A0,A1,A2,c0,c1,c2,HK8.out,?_,nc hR.ok,yP q2h.out qkB.out (xI q2h.out),⟨by omega,by omega,fun h=>by have:=xB _ h;omega⟩,fun j hj=>hj.2.1,by omega,qpc hR.ok⟩,HD1.out.below qkB.out,fun j hj=>?_⟩,HRA.out.2.1,HRA.out.2.2,?_,fun j hj=>hj.1,fun j hj=>HG1.out j hj⟩
 ·refine(nN.out.below HF.out.2).mono (G':=fun j=>(w.heap.size≤j∧j<W8.heap.size∧¬ o2 j)∧j≠W7.heap.size) (fun j hj=>⟨⟨by omega,by omega,fun h=>by have:=xB _ h;omega⟩,by omega⟩) |>.below HB8.out
 ·rcases hj with hj|hj
  ·exact hj.2.2
  ·rw[hj];exact hg2
 ·exact qT.out.trans (S':=fun _=>False) (ib.qB.of_below qkB.out) (fun _ h=>h.elim)
end Go.Proofs.YtdpbdkacngaemaaGreatDoor.vt.pg
namespace Go.Proofs.YtdpbdkacngaemaaGreatDoor.dk
open _root_.Go.Proofs.Tryz Go Go.RowKit
theorem qbI{P:Program}{ρ:Operand→Value}{o:Oper}{w w':World}{vx vy v':Value}{t:TypeId}(x y:Operand)(ho:o.op=.call { callee:=.builtin .append,args:=#[x,y],argTypes:=#[t,t] })(ht:o.type=t)(hx:ρ x=vx)(hy:ρ y=vy)
    (hrun:(Builtin.append_ #[t,t] t #[vx,vy]).run P w=.ok v' w'):(execOp ρ o).run P w=.ok (.value v') w':=by
 simp[execOp,ho,resolve,invoke,builtin,hx,hy,ht,hrun,Result.andThen]
theorem zH.twin{w w':World}{m n:Nat}{s:qE}(h:zH w m s):∃es clock,w.heap[m]?=some (.map es clock)∧∀(w':World) (n:Nat),w'.heap[n]?=some (.map es clock)→zH w' n s:=by
 obtain⟨D,⟨es,clock,h1,h2⟩,h3⟩:=h;exact⟨es,clock,h1,fun w' n hn=>⟨D,⟨es,clock,hn,h2⟩,h3⟩⟩
theorem qgQ(b:Nat)(es:Array MapEntry)(clock:Nat)(w:World)(hb:w.heap[b]?=some (.map es clock)) :
    Calls prog 104 #[.map (some b)] w fun e w'=>e=.returned (.map (some w.heap.size))∧w'=w.alloc (.map es clock):=by
 have hq:=fun w=>run_eql_map_nil_sl (P:=prog) w 85 _ _ (some b) underlying85;go_enter func104,ntmps104;go_wp2;rw[run_callFunc_extern func184 (by kernel_rfl) (by kernel_rfl) (by kernel_rfl) (e:=Extern.MapsClone.clone) (by kernel_rfl),run_maps_clone_sl w 85 hb];simp only[Result.andThen];rw[Oper.upon_value];go_wp2;rw[run_typeAssert_map_sl _ 85 _ _ _ _ underlying85];simp only[Result.andThen];rw[Oper.upon_value];go_wp2;go_ret;exact⟨rfl,rfl⟩
theorem qdX{ρ:Operand→Value}{o:Oper}{w:World}(ho:o.op=.buildSlice 86 0 #[]) :
    (execOp ρ o).run prog w=.ok (.value (.slice (some ⟨w.heap.size,0,none⟩) 0 0)) (w.alloc (.cells #[] 148)):=by
 unfold execOp;rw[ho];go_simp
theorem qin(w:World)(a:Option Addr)(n c:Nat):(binOp .eql 86 (.slice a n c) (.slice none 0 0)).run prog w=.ok (.bool a.isNone) w:=by
 simp only[binOp];simp[run_equal_slice_nil _ _ _ _ _ _ underlying86]
def qgR (n:Nat)(xs:List Value)(w:World)(e:Ending)(w':World):Prop:=∃v',e=.returned v'∧w'.ownsRow w.heap.size 148 66 v' n xs∧Below w.heap.size w w'
theorem qgS(w:World)(v:Value)(n:Nat)(xs:List Value)(h:w.ownsRow 0 148 66 v n xs)(h1:∀u∈xs,u.oneCell'=true)(hn:n≤100000) :
    Calls prog 105 #[v] w (qgR n xs w):=by
 have hown:=h;rcases h.2 with⟨rfl,h0⟩|⟨g,cap,cur,rfl,hg,hh,hc,hm,hcs,xg⟩
 ·subst h0;have hx:xs=[]:=by have:=h.1;simpa using this
  subst hx;have hq:=fun w=>qin w none 0 0;clear hown h;go_enter func105,ntmps105;go_wp2_with fail;go_ret;exact⟨_,rfl,World.ownsRow_nil _ _ _ _,Below.refl _ _⟩
 ·obtain⟨i0,hi,hz0,hz1,hz2⟩:=info_parts qfA;have hcell:∀(j:Nat) (u:Value),xs[j]?=some u→(w.alloc (.cells #[] 148)).cell? ((⟨g,0,none⟩:Addr).add j)=some u:=by
   intro j u hu;rw[addr_add,Nat.zero_add];have hj:j<xs.length:=(List.getElem?_eq_some_iff.1 hu).1;have:=World.ownsRow.cellAt hown j (by rw[← hown.1];exact hj);rw[World.cell?_of_block (a:=⟨g,j,none⟩) (Below.heap_alloc w _ g (Array.getElem?_eq_some_iff.1 hh).1),this];exact hu
  obtain⟨v',w',hrun,h2,h3,_⟩:=run_append_own (P:=prog) (w.alloc (.cells #[] 148)) w.heap.size 86 86 148 i0 _ 66 80 underlying86 hi hz0 hz1 hz2 (by simp[Value.cells,zi,qJ]) (by decide) (.slice (some ⟨w.heap.size,0,none⟩) 0 0) 0 [] (World.ownsRow_made w #[] 0 (Nat.le_refl _) (by decide) rfl) ⟨g,0,none⟩ n cap xs h.1 hcell h1 (by unfold maxLen;omega) (by omega) (by simp);rw[Nat.zero_add,List.nil_append]at h2;have HR:=QH hrun;have H2:=QH h2;have H3:=QH h3;clear hown h hcell h1 hrun h2 h3 hi hz0 hz1 hz2 hcs xg hh;have hq:=fun w=>qin w (some ⟨g,0,none⟩) n cap;go_enter func105,ntmps105;go_wp2_with (first|(refine qh rfl (qdX rfl) ?_)|(refine qh rfl (qbI (.tmp 5) (.tmp 6) rfl rfl rfl rfl HR.out) ?_));go_ret;refine⟨_,rfl,H2.out,?_⟩;have hb:Below w.heap.size w (w.alloc (.cells #[] 148)):=(Below.refl _ _).alloc (Nat.le_refl _) _;exact hb.grown H3.out hb.size (fun k hk=>by simp[Value.ownBlock]at hk;omega)
theorem qxe:(prog.info? 88).map (·.size)=some 6:=by kernel_rfl
def qgT (most:Nat)(d:DD)(w:World)(e:Ending)(w':World):Prop :=
 ∃q own,e=.returned (.pointer (some ⟨q,0,none⟩))∧zK most w' own q d∧Below w.heap.size w w'∧∀k,own k→w.heap.size≤k
section
variable {w:World} {own:Nat→Prop} {p:Nat} {d:DD}
theorem qpe{most:Nat}(h:zK most w own p d)(jc:most≤100000) :
    Calls prog 46 #[.pointer (some ⟨p,0,none⟩)] w (qgT most d w):=by
 obtain⟨h0,m,v,h1⟩:=h;have H0:=QH h0;have H1:=QH h1;have hml:d.more.length≤100000:=Nat.le_trans h0.nT jc;have HML:=QH hml;have HON:Hid (∀u∈jb (jn d.base d.more),u.oneCell'=true):=by
  intro u hu;simp only[jb,List.mem_flatMap]at hu;obtain⟨x,_,hu⟩:=hu;exact dR x u hu
 obtain⟨c0,c1,c2,c3,c4,c5⟩:=jQ h1.1;obtain⟨V,cv,hA⟩:=xQ h1.2.2.1;have qdY:=h1.1.lt;obtain⟨es,clock,hm,hmk⟩:=h1.2.1.twin (w':=w) (n:=0);have HM:=QH hm;have HMK:=QH hmk;subst hA;clear h0 h1 jc hml hm hmk;go_enter func46,ntmps46;go_wp2_with (refine wpList_skip rfl (qZ w 88 _ #[.int .i64 (d.n:Int),.int .i64 d.room,.map (some m),.slice V d.more.length cv,.bool d.on,.int .i64 d.qz] (.tmp 3) (.tmp 8) rfl rfl rfl (by rw[qxe];rfl) rfl (by rfl)) ?_);have nS:Hid (qd (w.alloc (.cells #[.int .i64 (d.n:Int),.int .i64 d.room,.map (some m),.slice V d.more.length cv,.bool d.on,.int .i64 d.qz] 88)) w.heap.size 88 #[.int .i64 (d.n:Int),.int .i64 d.room,.map (some m),.slice V d.more.length cv,.bool d.on,.int .i64 d.qz]):=qd.new _ _ _;have qT:Hid (Below w.heap.size w (w.alloc (.cells #[.int .i64 (d.n:Int),.int .i64 d.room,.map (some m),.slice V d.more.length cv,.bool d.on,.int .i64 d.qz] 88))):=(Below.refl _ _).alloc (Nat.le_refl _) _;generalize w.alloc (.cells #[.int .i64 (d.n:Int),.int .i64 d.room,.map (some m),.slice V d.more.length cv,.bool d.on,.int .i64 d.qz] 88)=X1 at *;clear c0 c1 c2 c3 c4 c5;obtain⟨q,hq⟩:∃q,q=w.heap.size:=⟨_,rfl⟩;rw[← hq]at nS ⊢;have HQ:=QH hq;clear hq;refine(qgQ m es clock X1 ((qT.out.block m (Array.getElem?_eq_some_iff.1 HM.out).1).trans HM.out)).mono ?_;rintro e W2 ⟨rfl,rfl⟩;have ij:Hid (qd (X1.alloc (.map es clock)) q 88 #[.int .i64 (d.n:Int),.int .i64 d.room,.map (some m),.slice V d.more.length cv,.bool d.on,.int .i64 d.qz]):=nS.out.of_block (Below.heap_alloc _ _ _ nS.out.lt);have qC:Hid (Below w.heap.size w (X1.alloc (.map es clock))):=qT.out.alloc qT.out.size _;have bI:Hid (zH (X1.alloc (.map es clock)) X1.heap.size d.now):=HMK.out _ _ (heap_alloc_new _ _);have HQM:Hid (q<X1.heap.size):=nS.out.lt;obtain⟨m2,tr⟩:∃x,x=X1.heap.size:=⟨_,rfl⟩;rw[← tr]at bI HQM ⊢;have zeg:Hid (m2<(X1.alloc (.map es clock)).heap.size):=bI.out.lt;clear tr;generalize X1.alloc (.map es clock)=X2 at *;obtain⟨q0,q1,q2,q3,q4,q5⟩:=jQ ij.out;have fq:=ij.out.frozen 2;have lS:=ij.out.lt;obtain⟨s0,s1,s2,s3,s4,s5⟩:=jQ (H1.out.keep qC.out.size (fun k hk=>qC.out.block k (H1.out.2.2.2.2.2.2 k hk))).1;have hpl:p<X2.heap.size:=Nat.lt_of_lt_of_le qdY qC.out.size;have hpq:p<q:=by rw[HQ.out];exact qdY
 go_wp2_with fail;have HP3:Hid (qd (X2.setCell ⟨q,2,none⟩ (.map (some m2))) q 88 #[.int .i64 (d.n:Int),.int .i64 d.room,.map (some m2),.slice V d.more.length cv,.bool d.on,.int .i64 d.qz]):=ij.out.qo 2 _;have zB:Hid (Below w.heap.size w (X2.setCell ⟨q,2,none⟩ (.map (some m2)))):=qC.out.setCell (by rw[HQ.out];exact Nat.le_refl _) _;have HM3:Hid (zH (X2.setCell ⟨q,2,none⟩ (.map (some m2))) m2 d.now):=bI.out.of_block (zV _ _ _ _ _ (Nat.ne_of_gt HQM.out));generalize X2.setCell ⟨q,2,none⟩ (.map (some m2))=X3 at *;clear q0 q1 q2 q3 q4 q5 fq lS s0 s1 s2 s3 s4 s5 hpl;have qu7:X3.ownsRow 0 148 66 (.slice V d.more.length cv) d.more.length (jb (jn d.base d.more)):=(H1.out.keep zB.out.size (fun k hk=>zB.out.block k (H1.out.2.2.2.2.2.2 k hk))).2.2.1;refine(qgS X3 _ _ _ qu7 HON.out HML.out).mono ?_;rintro e W4 ⟨v4,rfl,ho4,hb4⟩;obtain⟨A4,c4,rfl⟩:=xQ ho4;have HO4:=QH ho4;have zT:=QH hb4;clear qu7 ho4 hb4;have lZ:Hid (qd W4 q 88 #[.int .i64 (d.n:Int),.int .i64 d.room,.map (some m2),.slice V d.more.length cv,.bool d.on,.int .i64 d.qz]):=HP3.out.of_block (zT.out.block q HP3.out.lt);obtain⟨q0,q1,q2,q3,q4,q5⟩:=jQ lZ.out;have fq:=lZ.out.frozen 3;have lS:=lZ.out.lt;go_wp2_with fail;go_ret;have hq3:=HP3.out.lt;have hm3:=HM3.out.lt;have hx3:=zB.out.size;have qm:=HQM.out;have qq:=HQ.out;have h4:=zT.out.size;refine⟨q,fun k=>w.heap.size≤k∧k<W4.heap.size,rfl,⟨H0.out,m2,.slice A4 d.more.length c4,?_⟩,?_,fun k hk=>hk.1⟩
 ·refine⟨lZ.out.qo 3 _,(HM3.out.of_block (zT.out.block m2 hm3)).of_block (zV _ _ _ _ _ (Nat.ne_of_gt qm)),?_,⟨by omega,by omega⟩,⟨by omega,by omega⟩,fun j hj=>?_,fun k hk=>by rw[size_set];exact hk.2⟩
  ·have h5:(W4.setCell ⟨q,3,none⟩ (.slice A4 d.more.length c4)).ownsRow X3.heap.size 148 66 (.slice A4 d.more.length c4) d.more.length (jb (jn d.base d.more)):=zt HO4.out (fun j hj=>zV _ _ _ _ _ (by have h:=(HO4.out.lt j hj).1;omega));obtain⟨h1,h2⟩:=h5;refine⟨h1,?_⟩;rcases h2 with h2|⟨g,cap,cur,e1,_,e3⟩
   ·exact .inl h2
   ·exact .inr ⟨g,cap,cur,e1,Nat.zero_le _,e3⟩
  ·have h:=HO4.out.lt j hj;exact⟨Nat.le_trans hx3 h.1,h.2⟩
 ·exact(zB.out.trans (zT.out.mono zB.out.size)).setCell (by rw[qq];exact Nat.le_refl _) _
end
end Go.Proofs.YtdpbdkacngaemaaGreatDoor.dk
namespace Go.Proofs.YtdpbdkacngaemaaGreatDoor.vt.pg
open _root_.Go.Proofs.Tryz Go Go.RowKit Go.Sort ib mt im sp
theorem qdZ{b N:Nat}(h1:1≤b)(h8:b≤8):jK b N (m0 b):=by
 refine⟨h1,h8,⟨by simp[m0],fun z hz=>.inl (by simp[m0]at hz;exact hz.2),fun i j _ hj _=>?_⟩,by simp[m0],fun s hs=>by simp[m0]at hs,trivial,.inl rfl,⟨fun s hs=>by simp[m0]at hs,by simp[m0,yB,xF],by simp[m0,yB,xF]⟩⟩;have hl:(m0 b).live=List.replicate b 0:=rfl;unfold pl;rw[hl];simp[List.getD,List.getElem?_replicate];split <;> rfl
theorem aG:∀(ss:List Bt) (o:Nat),((jr.zr o ss).map (·.1)).Nodup
 | [],o=>by simp[jr.zr]
 | s::r,o=>by
  unfold jr.zr;rw[List.map_cons,List.nodup_cons];refine⟨fun h=>?_,aG r (o+1)⟩;obtain⟨x,hx,e⟩:=List.mem_map.1 h;have:=(mh hx).1;dsimp only at e;omega
def fw (b:Nat):List Wr:=jr.zr 145 (xP (m0 b))
def ft (b:Nat):Tg:=jr.over (fun _=>dk.zz) (fw b)
theorem qbJ{b N:Nat}(h1:1≤b)(h8:b≤8)(hN:193≤N)(lM:N≤1024):∀x∈fw b,145≤x.1∧x.1<(N:Int)∧x.2.length=32:=by
 intro x hx;have h48:=(xW (qdZ (N:=N) h1 h8) lM).2;obtain⟨i,hi,e1,e2⟩:=jr.jH _ _ _ hx;rw[List.getElem?_eq_getElem hi]at e2;have e3:=Option.some.inj e2;exact⟨by omega,by omega,by rw[← e3];exact qdc _ _ (List.getElem_mem hi)⟩
theorem qxf{b N:Nat}(h1:1≤b)(h8:b≤8)(hN:193≤N)(lM:N≤1024):jr.oA N (fw b)=0:=by
 have h48:=(xW (qdZ (N:=N) h1 h8) lM).2;have hl:(fw b).length≤48:=by unfold fw;rw[jr.zk];exact h48
 have hp:jr.vQ N (fw b)=true:=by
  unfold jr.vQ;have hf:=aj (fw b) [] (by simpa[fw]using aG (xP (m0 b)) 145);rw[hf];simp only[List.nil_append,List.length_map,decide_true,Bool.and_true,List.all_eq_true];intro x hx;obtain⟨h1,h2,h3⟩:=qbJ h1 h8 hN lM x hx;unfold jr.okW;simp;exact⟨⟨h1,h2⟩,h3⟩
 unfold jr.oA;split
 ·rfl
 ·rw[if_neg (by omega),hp];simp
theorem qxg{b N:Nat}(h1:1≤b)(h8:b≤8)(hN:193≤N)(lM:N≤1024):xK b N (ft b) (m0 b):=by
 refine⟨qdZ h1 h8,hN,lM,fun i hi=>?_,oH _ _ (fun k _=>dk.qJ) fun x hx=>(qbJ h1 h8 hN lM x hx).2.2⟩;have hm:(((145+i:Nat):Int),(xP (m0 b))[i])∈fw b:=by
  have key:∀(ss:List Bt) (o i:Nat) (hi:i<ss.length),(((o+i:Nat):Int),ss[i])∈jr.zr o ss:=by
   intro ss
   induction ss with
   | nil=>intro o i hi;simp at hi
   | cons s r ih =>
    intro o i hi;unfold jr.zr;cases i with
    | zero=>simp
    | succ j =>
     rw[List.getElem_cons_succ,show o+(j+1)=o+1+j by omega];exact List.mem_cons_of_mem _ (ih (o+1) j (by simpa using hi))
  exact key _ 145 i hi
 exact mW _ _ _ hm (aG _ _)
theorem qkC(N:Nat)(room:Int)(hN:145<N)(hr:(N:Int)≤room):(jr.kE (dk.DD.new N room)).1=0∧jr.JJ N (fun _=>dk.zz) (jr.kE (dk.DD.new N room)).2∧(jr.kE (dk.DD.new N room)).2.qz=0:=by
 have hn:(dk.DD.new N room).n=N:=by simp[dk.DD.n,dk.DD.new]
 have hgs:∀s∈jr.qH [[((0:Int),jr.kQ 0 0)]],jr.lL (dk.DD.new N room).n s:=by
  rw[hn];refine jr.wZ fun l hl x hx=>?_;obtain rfl:l=[(0,jr.kQ 0 0)]:=by simpa using hl
  obtain rfl:x=(0,jr.kQ 0 0):=by simpa using hx
  exact⟨by simp,by simp;omega,(jr.uN (by decide) (by decide)).1⟩
 have e:jr.kE (dk.DD.new N room)=(0,jr.mk (dk.DD.new N room) (dk.qR (List.replicate N none) [(0,jr.kQ 0 0)],[]) true 0):=by
  unfold jr.kE;rw[if_neg (by simp[dk.DD.new]),if_neg (by rw[hn];omega),jr.eV _ (dk.DD.new N room) rfl (Int.le_refl _) (by rw[hn];exact hr) hgs (.inl rfl)];have:((dk.DD.new N room).base,(dk.DD.new N room).more)=(List.replicate N none,[]):=rfl;rw[this,jr.aY];rfl
 rw[e];have hk:∀k,145≤k→jr.rd (dk.qR (List.replicate N none) [(0,jr.kQ 0 0)]) k=dk.zz:=fun k hk=>by
  rw[jr.jG _ _ _ (fun x hx=>by
   obtain rfl:x=(0,jr.kQ 0 0):=by simpa using hx
   dsimp only;omega)]
  unfold jr.rd;rw[jr.qk8];rfl
 refine⟨rfl,⟨⟨rfl,rfl,hr,by show(dk.qR _ _).length=N;rw[dk.zA];simp,dk.wm (fun v hv=>by simp at hv) (fun x hx=>?_),0,0,[],?_,.inl ⟨rfl,rfl⟩,?_⟩,hk⟩,rfl⟩
 ·obtain rfl:x=(0,jr.kQ 0 0):=by simpa using hx
  exact(jr.uN (by decide) (by decide)).1
 ·show jr.bu (jr.rd (dk.qR (List.replicate N none) [(0,jr.kQ 0 0)]) 0)=_;have:jr.rd (dk.qR (List.replicate N none) [(0,jr.kQ 0 0)]) 0=jr.kQ 0 0:=by
   unfold jr.rd dk.qR;simp only[List.foldl_cons,List.foldl_nil,dk.put];have:=dk.zL (List.replicate N none) 0 (some (jr.kQ 0 0)) (by simp;omega);rw[show((0:Int))=((0:Nat):Int)from rfl,this];rfl
  rw[this];exact(jr.uN (by decide) (by decide)).2.1
 ·exact hk
theorem ld {w w':World}{A:Option Addr}{l:List Wr}(h:jr.uU w A l)(hs:w.heap.size≤w'.heap.size)(hb:∀b o,A=some ⟨b,o,none⟩→b<w.heap.size→w'.heap[b]?=w.heap[b]?):jr.uU w' A l:=by
 intro i hi;obtain⟨b,o,h1,h2,h3,h4,h5⟩:=h i hi;have hk:=hb b o h1 h2;exact⟨b,o,h1,Nat.lt_of_lt_of_le h2 hs,(World.cell?_of_block (w:=w) (a:=⟨b,o+i*2,none⟩) hk).trans h3,(World.cell?_of_block (w:=w) (a:=⟨b,o+i*2+1,none⟩) hk).trans h4,h5⟩
theorem ui {o:Nat→Prop}{w:World}{p N b:Nat}{room:Int}(h:dk.zK 1000 w o p (dk.DD.new N room))(ik:xY w)(hog:¬ o gN)(h1:1≤b)(h8:b≤8)(hN:193≤N)(lM:N≤1024)(hr:(N:Int)≤room){A:Option Addr}{c:Nat}(hA:jr.uU w A (fw b))(hAo:∀b o',A=some ⟨b,o',none⟩→¬ o b) :
    Calls prog 45 #[pt p,.slice A (fw b).length c] w fun e w'=>e=.returned (.int .i64 0)∧∃d' o',dk.zK 1000 w' o' p d'∧jr.JJ N (ft b) d'∧d'.qz=0∧ib.qB o w w'∧∀j,o' j→o j∨w.heap.size≤j:=by
 have HF:=QH (jr.qg0 jr.qik h (by simp[dk.DD.new]) (by decide));have HNR:=QH (qkC N room (by omega) hr);obtain⟨D0,hD0⟩:=QE (jr.kE (dk.DD.new N room));rw[hD0]at HF HNR;obtain⟨r0,d0⟩:=D0;have hr0:r0=0:=HNR.out.1;subst hr0;have dv:=QH ik;have HOG:=QH hog;have HA:=QH hA;have HAO:=QH hAo;have q2k:=QH (qxf h1 h8 hN lM);have lT:Hid ((fw b).length≤48):=by unfold Hid fw;rw[jr.zk];exact(xW (qdZ (N:=N) h1 h8) lM).2
 have HN:=QH (And.intro hN lM);have HFT:Hid (ft b=jr.over (fun _=>dk.zz) (fw b)):=rfl;obtain⟨l,hl⟩:=QE (fw b);rw[hl]at HA q2k lT HFT ⊢;clear h ik hog hA hAo h1 h8 hN lM hr hD0 hl;obtain⟨n,hn⟩:=QE l.length;have HNL:=QH hn;rw[hn];clear hn;go_enter func45,ntmps45;go_wp2_with fail;refine HF.out.mono ?_;rintro e W1 ⟨rfl,o1,hd1,hb1,hg1⟩;have qT:Hid (ib.qB o w W1):=oX hb1;have HG1:Hid (∀j,o1 j→o j∨w.heap.size≤j):=hg1;have q2l:d0.n=N:=HNR.out.2.1.rb.1;have hA1:=ld HA.out qT.out.size (fun b o' e hb=>qT.out.block b hb (HAO.out b o' e));have qk9:xY W1:=wH dv.out qT.out.size (qT.out.block gN (xI dv.out) HOG.out);have hcm:=jr.fN jr.qik jr.qoL hd1 (by rw[q2l];have:=HN.out;omega) A c l hA1 (by have:=lT.out;omega) qk9 (by rw[HNR.out.2.1.more];decide) (by decide);have HCA:Hid ((jr.xf d0 l).1=0∧jr.JJ N (ft b) (jr.xf d0 l).2∧(jr.xf d0 l).2.qz=0):=by
  rcases jr.oB (N:=N) (tgt:=fun _=>dk.zz) (l:=l) (d:=d0) (by have:=HN.out;omega) HN.out.2 HNR.out.2.1 (by rw[HNR.out.2.2];exact Int.le_refl _) q2k.out with⟨g1,g2,g3,_⟩|⟨_,_,g3,_⟩
  ·exact⟨g1,by rw[HFT.out];exact g2,g3 HNR.out.2.2⟩
  ·exact absurd HNR.out.2.2 g3
 obtain⟨RC,hRC⟩:=QE (jr.xf d0 l);rw[hRC]at hcm HCA;obtain⟨r1,d1⟩:=RC;have hr1:r1=0:=HCA.out.1;subst hr1;rw[HNL.out]at hcm;have HCM:=QH hcm;clear hd1 hb1 hg1 q2l hA1 qk9 hcm hRC HF;have hce:((0:Int) != 0)=false:=rfl;go_wp2_with fail;refine HCM.out.mono ?_;rintro e W2 ⟨rfl,o2,hd2,hb2,hg2⟩;have HD2:=QH hd2;have qC:Hid (ib.qB o1 W1 W2):=oX hb2;have HG2:Hid (∀j,o2 j→o1 j∨W1.heap.size≤j):=hg2;clear hd2 hb2 hg2 HCM;go_wp2_with fail;go_ret;have hs:=qT.out.size;refine⟨rfl,d1,o2,HD2.out,HCA.out.2.1,HCA.out.2.2,qT.out.trans qC.out (fun j hj=>HG1.out j hj),fun j hj=>?_⟩;rcases HG2.out j hj with hj|hj
 ·exact HG1.out j hj
 ·exact .inr (by omega)
theorem qsI{w:World}{B:Nat}{v:Value}{l:List Wr}(h:jr.lY w B v l):∀a n c,v=.slice a n c→∀b o s,a=some ⟨b,o,s⟩→B≤b:=by
 intro a n c hv b o s ha;rcases h.2 with⟨rfl,h0⟩|⟨g,cap,cur,rfl,hg,hh,hcc,hm,hcs,xg⟩
 ·cases hv;cases ha
 ·cases hv;cases ha;exact hg
theorem sM {o:Nat→Prop}{w:World}{pd:Nat}(b N:Nat)(room:Int)(h:dk.zK 1000 w o pd (dk.DD.new N room))(ik:xY w)(hog:¬ o gN)(h1:1≤b)(h8:b≤8)(hN:193≤N)(lM:N≤1024)(hr:(N:Int)≤room) :
    Calls prog 9 #[pt pd,.int .i64 (b:Int)] w fun e w'=>e=.returned (.int .i64 0)∧∃t d' o',dk.zK 1000 w' o' pd d'∧jr.JJ N t d'∧xK b N t (m0 b)∧d'.qz=0∧ib.qB o w w'∧∀j,o' j→o j∨w.heap.size≤j:=by
 have hdn:(dk.DD.new N room).n=N:=by simp[dk.DD.n,dk.DD.new]
 have HL:=QH (pG h);rw[hdn]at HL;have vq:=(Below.refl w.heap.size w).alloc (Nat.le_refl _) (.cells (qi (List.replicate b 0)) 3);have hk:=qd.new w 3 (qi (List.replicate b 0));obtain⟨W1,hW1⟩:=QE (w.alloc (.cells (qi (List.replicate b 0)) 3));rw[hW1]at vq hk;have hok:jK b N (m0 b):=qdZ h1 h8;have hmt:MtL W1 (some ⟨w.heap.size,0,none⟩) none none b 0 0 (m0 b) :=
  ⟨⟨qd.nums hk (fun z hz=>by simp[m0]at hz;rw[hz.2];unfold qG;omega),by simp[m0],fun h=>by cases h⟩,jN.nil _ _,⟨Nat.le_refl _,fun _=>⟨rfl,rfl⟩⟩,jv.none _,qpa.base,qpa.target,qpa.next,qpa.all⟩
 have hwr:=pz hmt (nc hok) (hok.enc lM) (hok.size lM) (yP ik vq (xI ik));have hme:zJ (some ⟨w.heap.size,0,none⟩) none none b 0 0 (m0 b) = #[.slice (some ⟨w.heap.size,0,none⟩) b b,.slice none 0 0,.int .u64 0,.int .u64 0,.int .u64 0,.int .u64 0,.int .i64 0,.int .i64 0,.slice none 0 0]:=by simp[zJ,m0,yB]
 rw[hme]at hwr;have HWR:=QH hwr;have qT:=QH vq;have HD:=QH h;have dv:=QH ik;have HOG:=QH hog;have q6X:=QH (qxg h1 h8 hN lM);have HEA:=QH (qbJ h1 h8 hN lM);have HP:Hid (0<(fw b).length):=by unfold Hid fw;rw[jr.zk];exact(xW hok lM).1
 have qoH:Hid (∀(o:Nat→Prop) (w:World) (p:Nat),dk.zK 1000 w o p (dk.DD.new N room)→xY w→¬ o gN→∀(A:Option Addr) (c:Nat),jr.uU w A (fw b)→(∀b o',A=some ⟨b,o',none⟩→¬ o b) →
  Calls prog 45 #[pt p,.slice A (fw b).length c] w fun e w'=>e=.returned (.int .i64 0)∧∃d' o',dk.zK 1000 w' o' p d'∧jr.JJ N (ft b) d'∧d'.qz=0∧ib.qB o w w'∧∀j,o' j→o j∨w.heap.size≤j):=fun o w p hd hc ho A c hA hAo=>ui hd hc ho h1 h8 hN lM hr hA hAo
 have HN:=QH (And.intro hN lM);have g1:¬ (b:Int)<1:=by omega
 have g2:¬ (8:Int)<(b:Int):=by omega
 have g3:¬ (N:Int)<193:=by omega
 have quu:b≤1000:=by omega
 clear h ik hog vq hk hok hmt hwr hme hr hdn h1 h8 hN lM;go_enter func9,ntmps9;go_wp2_with fail;refine HL.out.mono ?_;rintro e W0 ⟨rfl,rfl⟩;go_wp2_with (at_make;refine qh rfl (cE _ _ b rfl rfl rfl (by omega)) ?_);try rw[hW1]
 clear hW1;go_wp2_with fail;refine HWR.out.mono ?_;rintro e W2 ⟨vl,rfl,hol,hb2⟩;have qxh:jr.lY W2 W1.heap.size vl (fw b):=hol;have hnew:=qsI qxh;have qC:=QH (qa qT.out hb2);obtain⟨A,ca,rfl,sB⟩:=qxh.view (fun x hx=>by have:=HEA.out x hx;have:=HN.out;unfold jr.qG;omega);have HWS:=QH sB;have qc4:Hid (∀b' o',A=some ⟨b',o',none⟩→w.heap.size≤b'∧b'<W2.heap.size):=fun b' o' e=>by
  have g1:=hnew A _ ca rfl b' o' none e;obtain⟨b'',o'',e2,g2,_⟩:=sB 0 HP.out;rw[e]at e2;injection e2 with e2
  injection e2 with e3 e4
  exact⟨Nat.le_trans qT.out.size g1,by rw[e3];exact g2⟩
 have HCP:=QH (dk.qpe (HD.out.below qC.out) (by decide));have HLEN:Hid (jr.zr 145 (xP (m0 b))=fw b):=rfl;obtain⟨n,hn⟩:=QE ((fw b).length);rw[hn]at qoH;rw[hn];clear hol hb2 sB qxh hnew hn HWR;have hce:((0:Int) != 0)=false:=rfl;go_wp2_with fail;refine HCP.out.mono ?_;rintro e W3 ⟨q,ow,rfl,hdq,hb3,hlo⟩;have zB:=QH (qa qC.out hb3);have hw3:=ld HWS.out hb3.size (fun b' o' e hb=>hb3.block b' hb);have q2m:=yP dv.out zB.out (xI dv.out);have HLY:=QH (qoH.out ow W3 q hdq q2m (fun h=>by have g1:=hlo _ h;have g2:=xI dv.out;have g3:=qC.out.size;omega) A ca hw3 (fun b' o' e h=>by have g1:=hlo _ h;have g2:=qc4.out b' o' e;omega));have HLO:=QH hlo;have HW3:=QH hw3;have tK:=QH hb3.size;clear hdq hb3 hlo hw3 q2m HCP;go_wp2_with fail;refine HLY.out.mono ?_;rintro e W4 ⟨rfl,d4,o4,hd4,hj4,hf4,hb4,hg4⟩;have qsJ:Below W2.heap.size W3 W4:=hb4.below (fun j hj=>HLO.out j hj) tK.out;have zT:Hid (Below w.heap.size w W4):=zB.out.trans (qsJ.mono qC.out.size);have hw4:=ld HW3.out qsJ.size (fun b' o' e hb=>qsJ.block b' (qc4.out b' o' e).2);have q2n:=yP dv.out zT.out (xI dv.out);have q2o:=QH (qoH.out o W4 pd (HD.out.below zT.out) q2n HOG.out A ca hw4 (fun b' o' e h=>by have g1:=HD.out.low _ h;have g2:=qc4.out b' o' e;omega));clear hd4 hj4 hf4 hb4 hg4 qsJ hw4 q2n HLY;go_wp2_with fail;refine q2o.out.mono ?_;rintro e W5 ⟨rfl,d5,o5,hd5,hj5,hf5,hb5,hg5⟩;have H1:=QH hd5;have H2:=QH hj5;have H3:=QH hf5;have H4:=QH hb5;have H5:=QH hg5;clear hd5 hj5 hf5 hb5 hg5 q2o;go_wp2_with fail;go_ret;have hs:=zT.out.size;refine⟨rfl,ft b,d5,o5,H1.out,H2.out,q6X.out,H3.out,(ib.qB.of_below (S:=o) zT.out).trans H4.out (fun _ h=>.inl h),fun j hj=>?_⟩;rcases H5.out j hj with hj|hj
 ·exact .inl hj
 ·exact .inr (by omega)
def q2q (m:Mt)(g:Gd)(l:List Int):Mt:={ m with qc:=m.qc++[⟨g,l,false⟩] }
def EfV (G:Nat→Prop)(v:Value)(w:World)(m m':Mt):Prop:=(∃k uS,v=.func (.func k) #[] uS)∧wJ G w v m m'
theorem EfV.below{G:Nat→Prop}{v:Value}{w w':World}{m m':Mt}(h:EfV G v w m m')(hb:Below w.heap.size w w'):EfV G v w' m m':=⟨h.1,h.2.below hb⟩
theorem EfV.of{G:Nat→Prop}{v:Value}{w:World}{m m':Mt}(h:wJ G w v m m'):EfV G v w m m':=⟨h.form,h⟩
end Go.Proofs.YtdpbdkacngaemaaGreatDoor.vt.pg

/- VgTb2, VgTb4, VgApi1, VgPlc, VgWri, VgHF, VgOff. -/
import Derived.Test.YtdpbdkacngaemaaGreatDoorZK19
set_option linter.unusedVariables false
set_option linter.unusedSimpArgs false
set_option maxHeartbeats 30000000
set_option maxRecDepth 100000
namespace Go.Proofs.YtdpbdkacngaemaaGreatDoor.vt.pg
open _root_.Go.Proofs.Tryz Go Go.RowKit ib mt im sp
theorem qhk{w:World}{gb:Nat}(a b:Nat)(B:Option Addr)(n c:Nat)(hd:Bool)(g:Gd)(hgb:gb<w.heap.size)(q0:w.cell? ⟨gb,0,none⟩=some (.int .u64 (g.1:Int)))(q1:w.cell? ⟨gb,1,none⟩=some (.int .u64 (g.2:Int))) :
    Calls prog 172 #[.agg #[.int .u64 (a:Int),.int .u64 (b:Int),.slice B n c,.bool hd],pt gb] w fun e w'=>e=.returned (.bool (decide ((a,b)=g)))∧Below w.heap.size w w':=by
 obtain⟨g1,g2⟩:=g;have hb0:=(Below.refl w.heap.size w).alloc (Nat.le_refl _) (.cells #[.int .u64 (a:Int),.int .u64 (b:Int),.slice B n c,.bool hd] 141);have p0:=(hb0.cell (p:=⟨gb,0,none⟩) hgb).trans q0;have p1:=(hb0.cell (p:=⟨gb,1,none⟩) hgb).trans q1;have HB:=QH hb0;have hq:decide ((a,b)=(g1,g2))=(((a:Int) == (g1:Int))&&((b:Int) == (g2:Int))):=by
  rw[Bool.eq_iff_iff];simp only[decide_eq_true_eq,Bool.and_eq_true,beq_iff_eq,Prod.mk.injEq];omega
 obtain⟨r,hr⟩:=QE (decide ((a,b)=(g1,g2)));rw[hr]at hq ⊢;dsimp only at p0 p1 q0 q1;generalize (a:Int)=x1 at *;generalize (b:Int)=x2 at *;generalize (g1:Int)=y1 at *;generalize (g2:Int)=y2 at *;obtain⟨b1,hb1⟩:=QE (x1 == y1);obtain⟨b2,hb2⟩:=QE (x2 == y2);rw[hb1,hb2]at hq;subst hq;clear hb0 hr;cases b1 <;> cases b2;all_goals
  go_enter func172,ntmps172;go_wp2_with fail;go_ret;exact⟨rfl,HB.out⟩
def oD (l:List Sp)(g:Gd):Int:=match l.findIdx? fun s=>decide (s.g=g)with
 | none=>-1
 | some i=>(i:Int)
theorem qhl{l:List Sp}{g:Gd}{k:Nat}(hk:k<l.length)(hg:l[k].g=g)(hb:∀j (h:j<l.length),j<k→l[j].g≠g):oD l g=(k:Int):=by
 unfold oD;have:(l.findIdx? fun s=>decide (s.g=g))=some k:=by
  rw[List.findIdx?_eq_some_iff_getElem];exact⟨hk,by simpa using hg,fun j hj=>by simpa using hb j (by omega) hj⟩
 rw[this]
theorem qhm{l:List Sp}{g:Gd}(hb:∀j (h:j<l.length),l[j].g≠g):oD l g = -1:=by
 unfold oD;have:(l.findIdx? fun s=>decide (s.g=g))=none:=by
  rw[List.findIdx?_eq_none_iff];intro s hs;obtain⟨j,hj,rfl⟩:=List.getElem_of_mem hs;simpa using hb j hj
 rw[this]
def IxS (l:List Sp)(g:Gd)(w:World)(i:Value)(wr:World):Prop :=
 ∃k:Nat,k≤l.length∧i=.int .i64 (k:Int)∧(∀j (h:j<l.length),j<k→l[j].g≠g)∧Below w.heap.size w wr
theorem qkV{w:World}{gb:Nat}{A:Option Addr}{c:Nat}{l:List Sp}(hS:ji w A l)(h20:l.length≤1000)(g:Gd)(hgb:gb<w.heap.size)(q0:w.cell? ⟨gb,0,none⟩=some (.int .u64 (g.1:Int)))(q1:w.cell? ⟨gb,1,none⟩=some (.int .u64 (g.2:Int))) :
    Calls prog 171 #[.slice A l.length c,.func (.func 172) #[] #[pt gb]] w fun e w'=>e=.returned (.int .i64 (oD l g))∧Below w.heap.size w w':=by
 have HS:=QH hS;have HQ0:=QH q0;have HQ1:=QH q1;have oA:=QH (fun k hk hg hb=>qhl (l:=l) (g:=g) (k:=k) hk hg hb);have HRN:=QH (fun hb=>qhm (l:=l) (g:=g) hb);obtain⟨R,hR⟩:=QE (oD l g);rw[hR]at oA HRN ⊢;clear hS q0 q1 hR;go_enter func171,ntmps171;go_wp2_with fail;go_loopw [8] (fun i wr=>IxS l g w i wr) (fun i _=>l.length-(intOf i).toNat);case atStart=>exact⟨0,Nat.zero_le _,rfl,fun j _ h=>absurd h (by omega),Below.refl _ _⟩
 case round =>
  obtain⟨k,hk,rfl,hno,hB⟩:=hrel;have jK:=QH hno;have HB:=QH hB;clear hno hB;by_cases hlt:k<l.length
  ·have ja:(k:Int)<(l.length:Int):=by omega
   obtain⟨b,o,B,cc,rfl,s1,s2,s3,s4,s5,_⟩:=(HS.out.below HB.out) k hlt;have HYE:=QH (fun(e:l[k].g=g)=>oA.out k hlt e jK.out);have HNX:Hid (l[k].g≠g→∀j (h:j<l.length),j<k+1→l[j].g≠g):=fun hne j hj hjk=>by
    by_cases qrD:j<k
    ·exact jK.out j hj qrD
    ·obtain rfl:j=k:=by omega
     exact hne
   obtain⟨ga,gb',hd,n,hgd,hn,hh⟩:∃a b' hd n,l[k].g=(a,b')∧l[k].qp.length=n∧l[k].hid=hd:=⟨_,_,_,_,rfl,rfl,rfl⟩;have yK:=QH (qhk ga gb' B n cc hd g (w:=wr) (Nat.lt_of_lt_of_le hgb HB.out.size) ((HB.out.cell (p:=⟨gb,0,none⟩) hgb).trans HQ0.out) ((HB.out.cell (p:=⟨gb,1,none⟩) hgb).trans HQ1.out));rw[hgd]at s2 s3 HYE HNX;rw[hn]at s4;rw[hh]at s5;dsimp only at s2 s3;have hk0:¬ (k:Int)<0:=by omega
   clear hgd hn hh;go_wp2_with fail;refine yK.out.mono ?_;rintro e W1 ⟨rfl,hb1⟩;have qU:=QH (HB.out.trans (hb1.mono HB.out.size));clear hb1;by_cases hg:(ga,gb')=g
   ·rw[decide_eq_true hg];have HR:=QH (HYE.out hg);clear hg HYE HNX yK;go_wp2_with fail;go_ret;rw[HR.out];exact⟨rfl,qU.out⟩
   ·rw[decide_eq_false hg];have HN:=QH (HNX.out hg);clear hg HYE HNX yK;go_wp2_with fail;go_roundw;case rel=>exact⟨k+1,by omega,by go_num,HN.out,qU.out⟩
    case measure=>simp[intOf];omega
  ·have ja:¬ (k:Int)<(l.length:Int):=by omega
   have HR:=QH (HRN.out (fun j hj=>jK.out j hj (by omega)));go_wp2_with fail;go_ret;rw[HR.out];exact⟨rfl,HB.out⟩
def ux (m:Mt)(g:Gd):Int × Int:=match pE m g with
 | none=>(0,5)
 | some i=>match m.qd[i]? with
  | none=>(0,5)
  | some s=>if s.hid then(0,14)else((i:Int),0)
theorem qhn(m:Mt)(g:Gd):(oD m.qd g = -1∧ux m g=(0,5))∨∃i,∃h:i<m.qd.length,oD m.qd g=((i:Nat):Int)∧ux m g=if m.qd[i].hid then(0,14)else((i:Int),0):=by
 unfold oD ux pE;cases hf:m.qd.findIdx? fun s=>decide (s.g=g)with
 | none=>exact .inl ⟨rfl,rfl⟩
 | some i =>
  have hi:=(List.findIdx?_eq_some_iff_getElem.1 hf).1;refine .inr ⟨i,hi,rfl,?_⟩;show(match m.qd[i]? with
   | none=>((0:Int),(5:Int))
   | some s=>if s.hid then(0,14)else((i:Int),0))=_
  rw[List.getElem?_eq_getElem hi]
theorem gQ {w:World}{A0 A1 A2:Option Addr}{c0 c1 c2:Nat}{m:Mt}(hS:ji w A1 m.qd)(h20:m.qd.length≤1000)(g:Gd) :
    Calls prog 99 #[.agg (zw A0 A1 A2 c0 c1 c2 m),gv g] w fun e w'=>e=.returned (.tuple #[.int .i64 (ux m g).1,.int .i64 (ux m g).2])∧Below w.heap.size w w':=by
 obtain⟨g1,g2⟩:=g;obtain⟨W1,hW1,zQ,hb1⟩:=xL w (zw A0 A1 A2 c0 c1 c2 m);have hb2:=(Below.refl _ W1).alloc (Nat.le_refl _) (.cells #[.int .u64 (g1:Int),.int .u64 (g2:Int)] 38);have hr2:=qh.new W1 38 #[.int .u64 (g1:Int),.int .u64 (g2:Int)];obtain⟨W2,hW2⟩:=QE (W1.alloc (.cells #[.int .u64 (g1:Int),.int .u64 (g2:Int)] 38));rw[hW2]at hb2 hr2;have qG:=QH (qc hb1 hb2);have hk2:=zQ.below hb2;have wj:=QH hk2;have q1:=hk2.cell 1;have fS:=hk2.lt;simp only[zw,QA,QB,QC]at q1;have HS:=QH (hS.below qG.out);have HI:=QH (qkV (c:=c1) HS.out h20 (g1,g2) hr2.lt (hr2.cell 0) (hr2.cell 1));have HFI:=QH (qhn m (g1,g2));obtain⟨R,hR⟩:=QE (ux m (g1,g2));rw[hR]at HFI ⊢;obtain⟨X,hX⟩:=QE (oD m.qd (g1,g2));rw[hX]at HFI HI;clear hS zQ hb1 hb2 hr2 hk2 hR hX;show Calls _ _ #[.agg (zw A0 A1 A2 c0 c1 c2 m),.agg #[.int .u64 (g1:Int),.int .u64 (g2:Int)]] _ _;unfold zw at hW1 ⊢;go_enter func99,ntmps99;go_upto_region 1 with fail;try rw[hW1]
 try rw[hW2]
 clear hW1 hW2;go_wp2_with fail;refine HI.out.mono ?_;rintro e W3 ⟨rfl,hb3⟩;have zG:=QH (qc qG.out hb3);have HS3:=QH (HS.out.below hb3);have hk3:=wj.out.below hb3;have q1:=hk3.cell 1;have fS:=hk3.lt;simp only[zw,QA,QB,QC]at q1;clear hb3 hk3 HI wj HS;rcases HFI.out with⟨rfl,hf⟩|⟨i,hil,rfl,hf⟩
 ·have HF:=QH hf;clear hf HFI;go_wp2_with fail;go_ret2;rw[HF.out];exact⟨rfl,zG.out⟩
 ·have HF:=QH hf;obtain⟨b,o,B,cc,rfl,s1,s2,s3,s4,s5,_⟩:=HS3.out i hil;have hii:(i:Int)<(m.qd.length:Int):=by omega
  have hin:¬ (i:Int)<0:=by omega
  generalize m.qd[i].hid=hd at *;clear hf HFI s2 s3 s4;cases hd with
  | true =>
   have HF2:Hid (R=(0,14)):=by unfold Hid;simpa using HF.out
   go_wp2_with fail;go_ret2;rw[HF2.out];exact⟨rfl,zG.out⟩
  | false =>
   have HF2:Hid (R=((i:Int),0)):=by unfold Hid;simpa using HF.out
   go_wp2_with fail;go_ret2;rw[HF2.out];exact⟨rfl,zG.out⟩
end Go.Proofs.YtdpbdkacngaemaaGreatDoor.vt.pg
namespace Go.Proofs.YtdpbdkacngaemaaGreatDoor.vt.pg
open _root_.Go.Proofs.Tryz Go Go.RowKit Go.Sort ib mt im sp
theorem eV:prog.follows .mixedOrders=true:=by kernel_rfl
def TkR (b:Nat)(x:List (Int × Bt))(w:World)(l i:Value)(wr:World):Prop :=
 ∃(k:Nat) (p:Int),k≤x.length∧i=.int .i64 (k:Int)∧l=.int .i64 (p+1) ∧ -1≤p∧p≤1000∧xw b (-1) x=xw b p (x.drop k)∧Below w.heap.size w wr
theorem qdT{b:Nat}{p:Int}{x:List (Int × Bt)}{k:Nat}(h:k<x.length):xw b p (x.drop k)=(decide (p<x[k].1)&&decide (x[k].1<(b:Int))&&decide (x[k].2.length=32)&&xw b x[k].1 (x.drop (k+1))):=by
 rw[List.drop_eq_getElem_cons h];rfl
theorem qkW{b:Nat}{p k:Int}{s:Bt}{r:Bool}(h:k<p+1∨(b:Int)≤k∨s.length≠32):(decide (p<k)&&decide (k<(b:Int))&&decide (s.length=32)&&r)=false:=by
 rcases h with h|h|h
 ·rw[decide_eq_false (by omega:¬ p<k)];rfl
 ·rw[decide_eq_false (by omega:¬ k<(b:Int))];simp
 ·rw[decide_eq_false h];simp
theorem qho{b:Nat}{p k:Int}{s:Bt}{r:Bool}(h1:¬ k<p+1)(h2:¬ (b:Int)≤k)(h3:s.length=32):(decide (p<k)&&decide (k<(b:Int))&&decide (s.length=32)&&r)=r:=by
 rw[decide_eq_true (by omega:p<k),decide_eq_true (by omega:k<(b:Int)),decide_eq_true h3];simp
theorem qhp{w:World}{A0 A1 A2:Option Addr}{c0 c1 c2:Nat}{m:Mt}(hb8:m.live.length≤1000){A:Option Addr}{c:Nat}{x:List (Int × Bt)}(hx:ch.kX w A x)(fG:x.length≤1000) :
    Calls prog 61 #[.agg (zw A0 A1 A2 c0 c1 c2 m),.slice A x.length c] w (kE (xw m.live.length (-1) x) w):=by
 obtain⟨W1,hW1,zQ,hb1⟩:=xL w (zw A0 A1 A2 c0 c1 c2 m);have fT:=QH zQ;have qU:=QH hb1;have HX:=QH (hx.below hb1);obtain⟨R,hR⟩:=QE (xw m.live.length (-1) x);have rF:=QH hR;rw[hR];clear hx zQ hb1 hR;unfold zw at hW1 ⊢;go_enter func61,ntmps61;go_upto_region 1 with fail;try rw[hW1]
 clear hW1;go_wp2_with fail;go_loopw [5,10] (fun l i wr=>TkR m.live.length x W1 l i wr) (fun _ i _=>x.length-(intOf i).toNat);case atStart=>exact⟨0,-1,Nat.zero_le _,rfl,rfl,by omega,by omega,rfl,Below.refl _ _⟩
 case round =>
  obtain⟨k,p,hk,rfl,rfl,hp1,hp2,hch,hB⟩:=hrel;have HB:=QH hB;have HCH:=QH hch;have rU:=QH hp1;clear hB hch;by_cases hlt:k<x.length
  ·have ja:(k:Int)<(x.length:Int):=by omega
   have hk0:¬ (k:Int)<0:=by omega
   obtain⟨b,o,rfl,s1,s2,s3,s4⟩:=(HX.out.below HB.out) k hlt;have HST:=QH (qdT (b:=m.live.length) (p:=p) hlt);obtain⟨xk,pJ⟩:=QE (x[k].1);obtain⟨sk,hsk⟩:=QE (x[k].2);rw[pJ,hsk]at HST;rw[pJ]at s2 s4;rw[hsk]at s3;obtain⟨S,hS⟩:=QE (str sk);have hSl:S.size=sk.length:=by rw[← hS,qO]
   rw[hS]at s3;have HSL:=QH hSl;obtain⟨L,hL⟩:=QE (p+1);have tW:=QH hL;rw[hL];have uo:=(Below.refl _ wr).alloc (Nat.le_refl _) (.cells #[.int .i64 xk,.string S] 122);have HBX:=QH (qc HB.out uo);have hq:=fT.out.below HBX.out;have q0:=hq.cell 0;have fS:=hq.lt;simp only[zw,List.getElem?_toArray,List.getElem?_cons_zero]at q0;have nZ:=QH s4;clear pJ hsk hS hSl hL hq uo s4 hp1 hp2;have no:xk<p+1∨(m.live.length:Int)≤xk∨sk.length≠32→R=false:=fun h=>by rw[← rF.out,HCH.out,HST.out,qkW h]
   have jK:=QH no;clear no;by_cases h1:xk<L
   ·have HF:=QH (jK.out (.inl (by rw[tW.out];exact h1)));go_wp2_with fail;go_ret;exact⟨by rw[HF.out];rfl,qc qU.out HBX.out⟩
   ·by_cases h2:(m.live.length:Int)≤xk
    ·have HF:=QH (jK.out (.inr (.inl h2)));go_wp2_with fail;go_ret;exact⟨by rw[HF.out];rfl,qc qU.out HBX.out⟩
    ·by_cases h3:(S.size:Int)=32
     ·have h3b:((S.size:Int) != 32)=false:=by rw[h3];rfl
      have h3n:sk.length=32:=by have:=HSL.out;omega
      have HYE:Hid (xw m.live.length (-1) x=xw m.live.length xk (x.drop (k+1))):=by unfold Hid;rw[HCH.out,HST.out,qho (by rw[tW.out];exact h1) h2 h3n]
      have hx1:¬ xk<p+1:=by rw[tW.out];exact h1
      have hxr : -9223372036854775808≤xk∧xk≤9223372036854775807:=nZ.out;have hw:IntKind.i64.wrap (xk+1)=xk+1:=by rw[IntWalk.i64_in _ (by omega)]
      have HPR:Hid (-1≤xk∧xk≤1000):=by have:=rU.out;unfold Hid;omega
      clear h3 h3n HST HCH jK hx1 hxr tW;go_wp2_with fail;go_roundw;case rel=>exact⟨k+1,xk,by omega,by go_num,rfl,HPR.out.1,HPR.out.2,HYE.out,HBX.out⟩
      case measure=>simp[intOf];omega
     ·have h3b:((S.size:Int) != 32)=true:=by simpa using h3
      have HF:=QH (jK.out (.inr (.inr (by have:=HSL.out;omega))));clear h3;go_wp2_with fail;go_ret;exact⟨by rw[HF.out];rfl,qc qU.out HBX.out⟩
  ·have ja:¬ (k:Int)<(x.length:Int):=by omega
   have HF:Hid (R=true):=by unfold Hid;rw[← rF.out,HCH.out,List.drop_eq_nil_of_le (by omega)];rfl
   go_wp2_with fail;go_ret;exact⟨by rw[HF.out];rfl,qc qU.out HB.out⟩
theorem qdU{w:World}{A0 A1 A2:Option Addr}{c0 c1 c2:Nat}{m:Mt}(hS:ji w A1 m.qd)(h20:m.qd.length≤1000)(g:Gd) :
    Calls prog 229 #[.agg (zw A0 A1 A2 c0 c1 c2 m),gv g] w (ai (if above g (qI m)=false then 2 else if 20≤m.qd.length then 3 else 0) w):=by
 obtain⟨g1,g2⟩:=g;obtain⟨W1,hW1,zQ,hb1⟩:=xL w (zw A0 A1 A2 c0 c1 c2 m);have hb2:=(Below.refl _ W1).alloc (Nat.le_refl _) (.cells #[.int .u64 (g1:Int),.int .u64 (g2:Int)] 38);have hr2:=qh.new W1 38 #[.int .u64 (g1:Int),.int .u64 (g2:Int)];obtain⟨W,hW2⟩:=QE (W1.alloc (.cells #[.int .u64 (g1:Int),.int .u64 (g2:Int)] 38));rw[hW2]at hb2 hr2;have qG:=QH (qc hb1 hb2);have hk2:=zQ.below hb2;have HS:=QH (hS.below qG.out);have q0:=hk2.cell 0;have q1:=hk2.cell 1;have q2:=hk2.cell 2;have q3:=hk2.cell 3;have q4:=hk2.cell 4;have q5:=hk2.cell 5;have q6:=hk2.cell 6;have q7:=hk2.cell 7;have q8:=hk2.cell 8;have r0:=hr2.cell 0;have r1:=hr2.cell 1;simp only[zw,QA,QB,QC]at q0 q1 q2 q3 q4 q5 q6 q7 q8 r0 r1;have e0:=fun d os=>cell_regrown q0 d os;have e1:=fun d os=>cell_regrown q1 d os;have e2:=fun d os=>cell_regrown q2 d os;have e3:=fun d os=>cell_regrown q3 d os;have e4:=fun d os=>cell_regrown q4 d os;have e5:=fun d os=>cell_regrown q5 d os;have e6:=fun d os=>cell_regrown q6 d os;have e7:=fun d os=>cell_regrown q7 d os;have e8:=fun d os=>cell_regrown q8 d os;have p0:=fun d os=>cell_regrown r0 d os;have p1:=fun d os=>cell_regrown r1 d os;have cL:∀b os,Calls prog 227 #[.agg (zw A0 A1 A2 c0 c1 c2 m)] (grow (redrawn W b) os) fun e w''=>e=.returned (gv (qI m))∧∃q:Regrown,w''=grow (redrawn W q.d) q.os :=
  fun b os=>Calls.regrown_of (pL (HS.out.below (below_regrown W b os)) h20)
 have cA:∀b os,Calls prog 228 #[gv (g1,g2),gv (qI m)] (grow (redrawn W b) os) fun e w''=>e=.returned (.bool (above (g1,g2) (qI m)))∧∃q:Regrown,w''=grow (redrawn W q.d) q.os :=
  fun b os=>Calls.regrown_of (mA (g1,g2) (qI m) _)
 obtain⟨L,hL⟩:=QE (gv (qI m));rw[hL]at cA cL;generalize above (g1,g2) (qI m)=q at *;have HQ1:=QH q1;clear hS zQ hb1 hb2 hr2 hk2 q0 q1 q2 q3 q4 q5 q6 q7 q8 r0 r1 hL;show Calls _ _ #[.agg (zw A0 A1 A2 c0 c1 c2 m),.agg #[.int .u64 (g1:Int),.int .u64 (g2:Int)]] _ _;unfold gv at cA;unfold zw at hW1 cL ⊢;dsimp only at cA;go_enter func229,ntmps229;go_upto_region 1 with fail;try rw[hW1]
 try rw[hW2]
 clear hW1 hW2;refine wp_region_quiet_below eV (by kernel_rfl) ?_;repeat (any_goals (first|go_big_quiet_step (first|exact cL _ _|exact cA _ _)|quiet_step (first|exact cL _ _|exact cA _ _)))
 refine wpQuiet_nil ?_;intro _ hw';obtain⟨⟨dq,osq⟩,hw''⟩:=hw';subst hw'';have q1:=e1 dq osq;have hb:=below_regrown W dq osq;have zG:=QH (qc qG.out hb);clear hb e0 e1 e2 e3 e4 e5 e6 e7 e8 p0 p1 cL cA qG HS HQ1;generalize grow (redrawn W dq) osq=W3 at *;cases q with
 | false =>
  go_wp2_with fail;go_ret;exact⟨rfl,zG.out⟩
 | true =>
  by_cases hx:(20:Int)≤(m.qd.length:Int)
  ·go_wp2_with fail;go_ret;exact⟨rfl,zG.out⟩
  ·go_wp2_with fail;go_ret;exact⟨rfl,zG.out⟩
theorem qdV{o:Nat→Prop}{w:World}{v pd:Nat}{m:Mt}{l:Bool}(h:gI o w v pd m l):Calls prog 77 #[pt v] w fun e w'=>e=.returned (.int .i64 (m.live.length:Int))∧Below w.heap.size w w':=by
 obtain⟨A0,A1,A2,c0,c1,c2,hA⟩:=h;obtain⟨pU,k0,_⟩:=hA.cells;clear hA;go_enter func77,ntmps77;go_wp2_with fail;go_ret;exact⟨rfl,Below.refl _ _⟩
theorem qb5(w:World):Calls prog 77 #[.pointer none] w fun e w'=>e=.returned (.int .i64 0)∧Below w.heap.size w w':=by
 go_enter func77,ntmps77;go_wp2_with fail;go_ret;exact⟨rfl,Below.refl _ _⟩
theorem lf {o:Nat→Prop}{w:World}{v pd:Nat}{m:Mt}{l:Bool}(h:gI o w v pd m l):Calls prog 37 #[pt v] w (ch.qbd (m.qd.map (·.g)) w):=by
 obtain⟨A0,A1,A2,c0,c1,c2,hA⟩:=h;have HG:=QH (qhj (A0:=A0) (A2:=A2) (c0:=c0) (c1:=c1) (c2:=c2) hA.tab.mt.qd hA.sz.qd);obtain⟨pU,k0,k1,k2,k3,k4,k5,k6,k7,k8,k9,uO⟩:=hA.cells;unfold zw at HG;clear hA;go_enter func37,ntmps37;go_wp2_with fail;refine HG.out.mono ?_;rintro e W1 ⟨A,cc,rfl,h1,h2,h3⟩;have H1:=QH h1;have H2:=QH h2;have H3:=QH h3;clear h1 h2 h3 HG;go_wp2_with fail;go_ret;exact⟨A,cc,by rw[List.length_map];rfl,H1.out,H2.out,H3.out⟩
theorem qhq(w:World):Calls prog 37 #[.pointer none] w (ch.qbd [] w):=by
 go_enter func37,ntmps37;go_wp2_with fail;go_ret;exact⟨none,0,rfl,fun i h=>absurd h (by simp),ib.ir.none _ _,Below.refl _ _⟩
section
variable {o1 o2:Nat→Prop} {w:World} {v pd N b:Nat} {d:DD} {m:Mt} {l:Bool} {t:Tg}
end
theorem qb6(t:Tg)(m:Mt)(g:Gd):(∃c,c≠0∧ux m g=(0,c)∧(jM t m).read g=([],c)∧qjF m g=⟨c,m,[]⟩) ∨
    ∃i,∃h:i<m.qd.length,ux m g=((i:Int),0)∧(jM t m).read g=(qD t m.qd[i].qp,0)∧qjF m g=⟨0,{ m with qd:=wh m.qd i },[]⟩:=by
 unfold ux qjF ch.CH.read;rw[qjN];cases hf:pE m g with
 | none=>exact .inl ⟨5,by decide,rfl,rfl,rfl⟩
 | some i =>
  have hi:i<m.qd.length:=(List.findIdx?_eq_some_iff_getElem.1 hf).1;have e:(jM t m).qd[i]?=some (qaU t m.qd[i]):=by simp[jM,hi]
  dsimp only;rw[e,List.getElem?_eq_getElem hi];dsimp only;have eh:(qaU t m.qd[i]).hid=m.qd[i].hid:=rfl;rw[eh];cases hh:m.qd[i].hid with
  | true=>exact .inl ⟨14,by decide,by simp,by simp,by simp⟩
  | false=>exact .inr ⟨i,hi,by simp,by simp[qaU],by simp⟩
theorem qhr{o1 o2:Nat→Prop}{w:World}{v pd N b:Nat}{d:DD}{m:Mt}{t:Tg}(g:Gd)(h:VP gI w o1 o2 v pd d m false)(hJ:jr.JJ N t d)(hR:yz b N t m):Calls prog 42 #[pt v,gv g] w (ch.qbc ((jM t m).read g) w):=by
 obtain⟨g1,g2⟩:=g;have hb2:=(Below.refl _ w).alloc (Nat.le_refl _) (.cells #[.int .u64 (g1:Int),.int .u64 (g2:Int)] 38);have hr2:=qh.new w 38 #[.int .u64 (g1:Int),.int .u64 (g2:Int)];obtain⟨W,hW2⟩:=QE (w.alloc (.cells #[.int .u64 (g1:Int),.int .u64 (g2:Int)] 38));rw[hW2]at hb2 hr2;have h2:=qT h hb2;obtain⟨A0,A1,A2,c0,c1,c2,hA⟩:=h2.is;have HA:=QH hA;have HV:=QH h2;have HJ:=QH hJ;have HR:=QH hR;have qG:=QH hb2;have iG:=QH (qby h2 hJ.on);have po:=QH hA.sz;obtain⟨pU,k0,k1,k2,k3,k4,k5,k6,k7,k8,k9,uO⟩:=hA.cells;have r0:=hr2.cell 0;have r1:=hr2.cell 1;have rlt:=hr2.lt;simp only[Nat.zero_add,QA,QB,QC]at r0 r1;have e0:=fun d os=>cell_regrown k0 d os;have e1:=fun d os=>cell_regrown k1 d os;have e2:=fun d os=>cell_regrown k2 d os;have e3:=fun d os=>cell_regrown k3 d os;have e4:=fun d os=>cell_regrown k4 d os;have e5:=fun d os=>cell_regrown k5 d os;have e6:=fun d os=>cell_regrown k6 d os;have e7:=fun d os=>cell_regrown k7 d os;have e8:=fun d os=>cell_regrown k8 d os;have p0:=fun d os=>cell_regrown r0 d os;have p1:=fun d os=>cell_regrown r1 d os;have cF:∀b os,Calls prog 99 #[.agg (zw A0 A1 A2 c0 c1 c2 m),gv (g1,g2)] (grow (redrawn W b) os) fun e w''=>e=.returned (.tuple #[.int .i64 (ux m (g1,g2)).1,.int .i64 (ux m (g1,g2)).2])∧∃q:Regrown,w''=grow (redrawn W q.d) q.os :=
  fun b os=>Calls.regrown_of (gQ (HA.out.below (below_regrown W b os)).tab.mt.qd po.out.qd (g1,g2))
 have HFC:=QH (qb6 t m (g1,g2));have hE0:∀(c:Int),ux m (g1,g2)=(0,c)→ux m (g1,g2)=(0,c):=fun _ h=>h;obtain⟨R,hR'⟩:=QE ((jM t m).read (g1,g2));obtain⟨F,hF⟩:=QE (ux m (g1,g2));rw[hF,hR']at HFC;rw[hF]at cF;rw[hR'];obtain⟨F1,F2⟩:=F;clear h h2 hJ hR hA hb2 hr2 hR' hF hE0;unfold gv at cF;unfold zw at cF;dsimp only at cF;show Calls _ _ #[pt v,.agg #[.int .u64 (g1:Int),.int .u64 (g2:Int)]] _ _;go_enter func42,ntmps42;go_upto_region 1 with fail;try rw[hW2]
 clear hW2;go_wp2_with fail;refine iG.out.mono ?_;rintro e W1 ⟨rfl,rfl⟩;clear iG;go_upto_region 4 with fail;refine wp_region_quiet_below eV (by kernel_rfl) ?_;repeat (any_goals (first|go_big_quiet_step (first|exact cF _ _)|quiet_step (first|exact cF _ _)))
 refine wpQuiet_nil ?_;intro _ hw';obtain⟨⟨dq,osq⟩,hw''⟩:=hw';subst hw'';have hb:=below_regrown W dq osq;have zG:=QH (qc qG.out hb);have HV3:=QH (qT HV.out hb);have fx:=QH (HA.out.below hb);clear hb e0 e1 e2 e3 e4 e5 e6 e7 e8 p0 p1 cF HA HV qG pU k0 k1 k2 k3 k4 k5 k6 k7 k8 k9 uO r0 r1 rlt;generalize grow (redrawn W dq) osq=W3 at *;rcases HFC.out with⟨c,hc,hf,eI,_⟩|⟨i,hi,hf,eI,_⟩
 ·obtain⟨rfl,rfl⟩:=Prod.mk.inj hf;have hcb:(F2 != 0)=true:=by simpa using hc
  have iG:=QH eI;clear hc eI hf HFC;go_wp2_with fail;go_ret2;rw[iG.out];exact⟨none,0,rfl,fun i h=>absurd h (by simp),ib.ir.none _ _,zG.out⟩
 ·obtain⟨rfl,rfl⟩:=Prod.mk.inj hf;have iG:=QH eI;obtain⟨b',o',B,cc,rfl,s1,s2,s3,s4,s5,s6,s7⟩:=fx.out.tab.mt.qd i hi;have cD:=QH (qkM HV3.out HJ.out s6 (po.out.wM _ (List.getElem_mem hi)) (fun z hz=>(HR.out.ok.wM _ (List.getElem_mem hi)).2.1 z hz));obtain⟨pU,k0,k1,k2,k3,k4,k5,k6,k7,k8,k9,uO⟩:=fx.out.cells;have hii:(i:Int)<(m.qd.length:Int):=by omega
  have hin:¬ (i:Int)<0:=by omega
  generalize m.qd[i].qp=im at *;clear eI hf HFC s2 s3 s5 s6 s7 hi;go_wp2_with fail;refine cD.out.mono ?_;rintro e W4 ⟨A,cc',rfl,h1,h2,h3⟩;have H1:=QH h1;have H2:=QH h2;have H3:=QH h3;clear h1 h2 h3 cD;go_wp2_with fail;go_ret2;rw[iG.out];exact⟨A,cc',rfl,H1.out,fun b o e=>⟨Nat.le_trans zG.out.size (H2.out b o e).1,(H2.out b o e).2⟩,qc zG.out H3.out⟩
end Go.Proofs.YtdpbdkacngaemaaGreatDoor.vt.pg
namespace Go.Proofs.YtdpbdkacngaemaaGreatDoor.vt.pg
open _root_.Go.Proofs.Tryz Go Go.RowKit Go.Sort ib mt im sp
def gS (w:World)(g:Nat)(A:Option Addr)(l:List Int):Prop:=∀i (h:i<l.length),∃b o,A=some ⟨b,o,none⟩∧b≠g∧b<w.heap.size∧w.cell? ⟨b,o+i,none⟩=some (.int .i64 l[i])
theorem gS.set{w:World}{g k:Nat}{u:Value}{A:Option Addr}{l:List Int}(h:gS w g A l):gS (w.setCell ⟨g,k,none⟩ u) g A l:=by
 intro i hi;obtain⟨b,o,h1,h2,h3,h4⟩:=h i hi;exact⟨b,o,h1,h2,by simpa[World.setCell]using h3,(World.cell?_of_block (a:=⟨b,o+i,none⟩) (qw _ _ _ _ _ h2)).trans h4⟩
theorem gS.below{w w':World}{g:Nat}{A:Option Addr}{l:List Int}(h:gS w g A l)(hb:Below w.heap.size w w'):gS w' g A l:=by
 intro i hi;obtain⟨b,o,h1,h2,h3,h4⟩:=h i hi;exact⟨b,o,h1,h2,Nat.lt_of_lt_of_le h3 hb.size,(hb.cell (p:=⟨b,o+i,none⟩) h3).trans h4⟩
theorem gS.tail{w:World}{g b o:Nat}{f:Int}{l:List Int}(h:gS w g (some ⟨b,o,none⟩) (f::l)):gS w g (some ⟨b,o+1,none⟩) l:=by
 intro i hi;obtain⟨b',o',h1,h2,h3,h4⟩:=h (i+1) (by simpa using hi);simp only[Option.some.injEq,Addr.mk.injEq,and_true]at h1;obtain⟨rfl,rfl⟩:=h1;refine⟨b,o+1,rfl,h2,h3,?_⟩;rw[show o+1+i=o+(i+1)by omega];exact h4
structure Pk(x:List (Int × Bt))(fr:List Int)(k:Nat)(pre pV:List Int):Prop where
 le:k≤x.length
 len:pre.length=k
 all:(qg fr x).1=pre++(qg pV (x.drop k)).1
 room:full (x.drop k)≤pV.length
theorem Pk.start(x:List (Int × Bt))(fr:List Int)(h:full x≤fr.length):Pk x fr 0 [] fr:=⟨Nat.zero_le _,rfl,rfl,h⟩
theorem ni (c:Int × Bt)(r:List (Int × Bt)):full (c::r)=full r+if c.2=zb then 0 else 1:=by obtain⟨a,b⟩:=c;exact vk a b r
theorem qdW(fr:List Int)(y:Int × Bt)(r:List (Int × Bt))(h:y.2=zb):qg fr (y::r)=(0::(qg fr r).1,(qg fr r).2):=by
 obtain⟨a,b⟩:=y;dsimp only at h;cases fr <;> simp[qg,h]
theorem qdX(f:Int)(fr:List Int)(y:Int × Bt)(r:List (Int × Bt))(h:¬ y.2=zb):qg (f::fr) (y::r)=(f::(qg fr r).1,(f,y.2)::(qg fr r).2):=by
 obtain⟨a,b⟩:=y;dsimp only at h;simp[qg,h]
theorem Pk.zero{x:List (Int × Bt)}{fr pre pV:List Int}{k:Nat}(h:Pk x fr k pre pV)(hk:k<x.length)(hz:x[k].2=zb):Pk x fr (k+1) (pre++[0]) pV:=by
 obtain⟨h1,h2,h3,h4⟩:=h;rw[List.drop_eq_getElem_cons hk]at h3 h4;rw[qdW _ _ _ hz]at h3;rw[ni,if_pos hz]at h4;exact⟨by omega,by simp[h2],by rw[h3];simp,by omega⟩
theorem Pk.more{x:List (Int × Bt)}{fr pre pV:List Int}{k:Nat}(h:Pk x fr k pre pV)(hk:k<x.length)(hz:¬ x[k].2=zb):∃f r,pV=f::r∧Pk x fr (k+1) (pre++[f]) r:=by
 obtain⟨h1,h2,h3,h4⟩:=h;rw[List.drop_eq_getElem_cons hk]at h3 h4;rw[ni,if_neg hz]at h4;cases pV with
 | nil=>simp at h4
 | cons f r =>
  rw[qdX _ _ _ _ hz]at h3;exact⟨f,r,rfl,by omega,by simp[h2],by rw[h3];simp,by simp at h4;omega⟩
theorem Pk.stop{x:List (Int × Bt)}{fr pre pV:List Int}(h:Pk x fr x.length pre pV):(qg fr x).1=pre:=by
 obtain⟨h1,h2,h3,h4⟩:=h;rw[List.drop_length]at h3;simpa[qg]using h3
def Pw (x:List (Int × Bt))(pre:List Int):List Pl:=PL x (pre++List.replicate (x.length-pre.length) 0)
theorem qsg(x:List (Int × Bt)):Pw x []=P0 x:=by
 unfold Pw PL P0;apply List.ext_getElem
 ·simp
 ·intro i h1 h2;simp
theorem nj {x:List (Int × Bt)}{pre:List Int}(h:pre.length≤x.length):(Pw x pre).length=x.length:=by
 unfold Pw PL;rw[List.length_zipWith,List.length_append,List.length_replicate];omega
theorem qkX{x:List (Int × Bt)}{pre:List Int}{k:Nat}(hp:pre.length=k)(hk:k<x.length)(h:k<(Pw x pre).length):(Pw x pre)[k]=(x[k].1,0,x[k].2):=by
 simp only[Pw,PL,List.getElem_zipWith];rw[List.getElem_append_right (by omega),List.getElem_replicate]
theorem qkY{x:List (Int × Bt)}{pre:List Int}{k:Nat}(hp:pre.length=k)(hk:k<x.length)(a:Int):(Pw x pre).set k (x[k].1,a,x[k].2)=Pw x (pre++[a]):=by
 apply List.ext_getElem
 ·rw[List.length_set,nj (by omega),nj (by simp;omega)]
 ·intro i h1 h2;rw[List.getElem_set];have hix:i<x.length:=by rw[nj (by simp;omega)]at h2;exact h2
  by_cases e:k=i
  ·subst e;rw[if_pos rfl];simp only[Pw,PL,List.getElem_zipWith];rw[List.getElem_append_left (by simp;omega),List.getElem_append_right (by omega)];simp[hp]
  ·rw[if_neg e];simp only[Pw,PL,List.getElem_zipWith]
   congr 2
   by_cases h3:i<pre.length
   ·rw[List.getElem_append_left h3,List.getElem_append_left (by simp;omega),List.getElem_append_left h3]
   ·rw[List.getElem_append_right (by omega),List.getElem_append_right (by simp;omega)];simp
theorem qoq{x:List (Int × Bt)}{pre:List Int}{k:Nat}(hp:pre.length=k)(hk:k<x.length):Pw x (pre++[0])=Pw x pre:=by
 rw[← qkY hp hk 0];have h:=nj (x:=x) (pre:=pre) (by omega);rw[← qkX hp hk (by omega),List.set_getElem_self]
theorem qsh{x:List (Int × Bt)}{pre:List Int}(h:pre.length=x.length):Pw x pre=PL x pre:=by
 unfold Pw;rw[h,Nat.sub_self,List.replicate_zero,List.append_nil]
def Pl2 (x:List (Int × Bt))(fr:List Int)(B:Nat)(bv:Value)(g:Nat)(w:World)(s i:Value)(wr:World):Prop :=
 ∃(k:Nat) (pre pV:List Int) (A:Option Addr) (c:Nat),i=.int .i64 (k:Int)∧s=.slice A pV.length c∧pV.length≤c∧Pk x fr k pre pV∧gS wr g A pV∧tr wr B bv (Pw x pre)∧Below w.heap.size w wr
theorem pX {cs:List Int}{n:Nat}(h:(yS cs (n:Int)).2=0):n≤(yS cs (n:Int)).1.length:=by
 unfold yS at h ⊢;rw[if_neg (by omega)]at h ⊢;by_cases hf:(xW cs:Int)<(n:Int)
 ·rw[if_pos hf]at h;simp at h
 ·rw[if_neg hf];rw[Int.toNat_natCast];show n≤((qP cs cs.length).take n).length;unfold xW at hf;rw[List.length_take];omega
theorem qdY{o1 o2:Nat→Prop}{w:World}{v pd N:Nat}{d:DD}{m:Mt}{l:Bool}{b:Nat}(h:VP gI w o1 o2 v pd d m l)(hn:d.n=N)(vD:jm b N m)(hN:N≤1024){A:Option Addr}{c:Nat}{x:List (Int × Bt)}(hx:ch.kX w A x)(fG:x.length≤8)(h32:∀y∈x,y.2.length=32) :
    Calls prog 62 #[pt v,.slice A x.length c] w (qoa (qL N m x) x w):=by
 obtain⟨i0,hi,hz0,hz1,hz2⟩:=info_parts qrQ;have HV:=QH h;have HX:=QH hx;have H32:=QH h32;obtain⟨cs,hcs,hcl,_,_⟩:=aD vD hN;have hfull:=sB x;have HCS:=QH hcs;have HNN:=QH hn;clear h hx h32 hcs vD hn;go_enter func62,ntmps62;go_wp2_with fail;go_loopw [6,7,16] (fun v f i wr=>PlR x w v f i wr) (fun _ _ i _=>x.length-(intOf i).toNat);case atStart=>exact⟨0,Nat.zero_le _,rfl,rfl,World.ownsRow_nil _ _ _ _,Below.refl _ _⟩
 case round =>
  obtain⟨k,hk,rfl,rfl,ho,hB⟩:=hrel;have HO:=QH ho;have HB:=QH hB;clear ho hB;by_cases hlt:k<x.length
  ·have ja:(k:Int)<(x.length:Int):=by omega
   have hk0:¬ (k:Int)<0:=by omega
   obtain⟨b',o,rfl,s1,s2,s3,_⟩:=(HX.out.below HB.out) k hlt;have xY:Hid (P0 (x.take (k+1))=P0 (x.take k)++[(x[k].1,0,x[k].2)]):=by unfold Hid P0;rw[List.take_succ_eq_append_getElem hlt,List.map_append];rfl
   have HLK:Hid ((P0 (x.take k)).length=k):=by unfold Hid P0;rw[List.length_map,List.length_take];omega
   have HFT:=QH (qhg hlt);have hft:full (x.take k)≤k:=by have:=sB (x.take k);rw[List.length_take]at this;omega
   have HZ:Hid (∀W,Calls prog 136 #[.string (str x[k].2)] W (kE (decide (x[k].2=zb)) W)):=fun W=>ic _ (H32.out _ (List.getElem_mem hlt)) W;obtain⟨y,hy⟩:=QE (x[k]);rw[hy]at xY HFT HZ s2 s3;clear hy;obtain⟨kb,s⟩:=y;dsimp only at xY HFT HZ s2 s3;obtain⟨fl,wA⟩:=QE (full (x.take k));rw[wA]at HFT hft ⊢;obtain⟨S,hS⟩:=QE (str s);have HSS:=QH hS;rw[hS]at s3 HZ;clear wA hS;have uo:=(Below.refl _ wr).alloc (Nat.le_refl _) (.cells #[.int .i64 kb,.string S] 122);obtain⟨W3,hW3⟩:=QE (wr.alloc (.cells #[.int .i64 kb,.string S] 122));have jH:=qh.new wr 122 #[.int .i64 kb,.string S];rw[hW3]at uo jH;have vU:=QH jH;have r0:=jH.cell 0;have r1:=jH.cell 1;have hrl:=jH.lt;simp only[QA,QB,QC]at r0 r1;have hby:=(Below.refl _ W3).alloc (Nat.le_refl _) (.cells #[.int .i64 kb,.int .i64 0,.string S] 214);have hbz:=qc uo hby;have sJ:=QH (HO.out.below hbz);have zY:=QH (qc HB.out hbz);have eJ:Hid (∀j u,([.int .i64 kb,.int .i64 0,.string S]:List Value)[j]?=some u→(W3.alloc (.cells #[.int .i64 kb,.int .i64 0,.string S] 214)).cell? ((⟨W3.heap.size,0,none⟩:Addr).add j)=some u):=fun j u hu=>by
    rw[addr_add,Nat.zero_add,(qh.new W3 214 #[.int .i64 kb,.int .i64 0,.string S]).cell j];simpa using hu
   have e1:∀u∈([.int .i64 kb,.int .i64 0,.string S]:List Value),u.oneCell'=true:=by intro u hu;simp at hu;rcases hu with rfl|rfl|rfl <;> rfl
   have E1:=QH e1;have E2:Hid ((P0 (x.take k)).length+1≤maxLen):=by unfold Hid;rw[HLK.out];unfold maxLen;omega
   have E3:Hid (((P0 (x.take k)).length+1)*32≤140737488355328):=by unfold Hid;rw[HLK.out];omega
   have zG:Hid (Below W3.heap.size W3 (W3.alloc (.cells #[.int .i64 kb,.int .i64 0,.string S] 214))):=hby;have HWW:Hid (w.heap.size≤wr.heap.size):=HB.out.size;have HNE:Hid (∀j,(∃v':Value,v'.ownBlock=some j∧tr wr w.heap.size v' (P0 (x.take k)))→j≠wr.heap.size):=fun j ⟨v',h1,h2⟩ e=>by have:=(h2.lt j h1).2;omega
   clear e1 uo jH hby hbz;go_wp2_with (at_builtin;refine xM rfl (.tmp 20) (.tmp 26) 124 rfl w.heap.size 214 i0 (.agg #[.int .i64 0,.int .i64 0,.string ByteArray.empty]) 3 32 underlying124 hi hz0 hz1 hz2 rfl (by decide) _ _ _ rfl sJ.out ⟨W3.heap.size,0,none⟩ 1 1 [.int .i64 kb,.int .i64 0,.string S] rfl rfl eJ.out E1.out E2.out E3.out zY.out.size ?_);intro v' w1 hown hgrow _;have jU:Hid (Below w.heap.size w w1):=zY.out.grown hgrow zY.out.size (fun j hj=>(sJ.out.lt j hj).1);have HO5:Hid (tr w1 w.heap.size v' (P0 (x.take (k+1)))):=by
    unfold Hid tr;rw[xY.out,dY,List.length_append,HLK.out];show w1.ownsRow _ _ _ v' (k+1) (yN (P0 (x.take k))++[.int .i64 kb,.int .i64 0,.string (str s)]);rw[HSS.out];have h9:=hown;rw[HLK.out]at h9;exact h9
   have hk5:qh w1 wr.heap.size 122 #[.int .i64 kb,.string S]:=(vU.out.below zG.out).of_block (hgrow.block _ (vU.out.below zG.out).lt (fun e=>by
    have:=(HO.out.lt wr.heap.size e.symm).2;omega))
   have r1:=hk5.cell 1;have hrl:=hk5.lt;simp only[QA,QB,QC]at r1;clear hown hgrow hk5;go_wp2_with fail;refine(HZ.out _).mono ?_;rintro e W6 ⟨rfl,wG⟩;have HO6:=QH (HO5.out.below wG);have dJ:=QH (qc jU.out wG);have hfw:IntKind.i64.wrap ((fl:Int)+1)=((fl+1:Nat):Int):=by rw[IntWalk.i64_in _ (by omega)];omega
   clear wG r1 hrl HZ;by_cases hz:s=zb
   ·rw[decide_eq_true hz];have HF:Hid (full (x.take (k+1))=fl):=by unfold Hid;rw[HFT.out,if_pos hz,Nat.add_zero]
    clear hz HFT;go_wp2_with fail;go_roundw;case rel=>exact⟨k+1,by omega,by go_num,by rw[HF.out],HO6.out,dJ.out⟩
    case measure=>simp[intOf];omega
   ·rw[decide_eq_false hz];have HF:Hid (full (x.take (k+1))=fl+1):=by unfold Hid;rw[HFT.out,if_neg hz]
    clear hz HFT;go_wp2_with fail;go_roundw;case rel=>exact⟨k+1,by omega,by go_num,by rw[HF.out];rfl,HO6.out,dJ.out⟩
    case measure=>simp[intOf];omega
  ·obtain rfl:k=x.length:=by omega
   have ja:¬ (x.length:Int)<(x.length:Int):=by omega
   have ho:=HO.out;rw[List.take_length]at ho ⊢;obtain⟨VA,vc,hva,_⟩:=ho.view;have HO1:=QH ho;have hlp:(P0 x).length=x.length:=by unfold P0;rw[List.length_map]
   rw[hlp]at hva;have HVA:=QH hva;obtain⟨bv,hbv⟩:∃z,z=z:=⟨(0:Nat),rfl⟩;clear ho hva hbv bv;go_upto_region 10 with fail;have hv1:=qT HV.out HB.out;obtain⟨A0,A1,A2,c0,c1,c2,hA⟩:=hv1.is;have HAT:=QH hA;have qkZ:=hA.cells;have HVP:=QH hv1;have hvl:=qkZ.lt;clear hv1 hA;obtain⟨n1,hn1⟩:=QE ((xg m).length);obtain⟨n2,hn2⟩:=QE cs.length;have HN1:=QH hn1;have HN2:=QH hn2;have h16:n1≤1002:=by rw[← hn1];unfold xg;have:=HAT.out.sz.qd;simp;omega
   refine zR (by kernel_rfl) 16 [36,37,38,39,40,41,42,43,44,45,46,35,47,48,10,11] (by kernel_rfl) (PcG v pd N (.agg (zw A0 A1 A2 c0 c1 c2 m)) n1 n2 (xg m) cs) (qkE _ _ _ _ _ _ _ _) ?_ ?_
   ·intro i o vs ρ W zb5 hop hρ hfn hb hG;have t0:ρ (.tmp 0)=pt v:=hρ.out 0 rfl;have hc:=hρ.const;have s36:=hρ.at_ 36 0 rfl;have s37:=hρ.at_ 37 1 rfl;have s38:=hρ.at_ 38 2 rfl;have s39:=hρ.at_ 39 3 rfl;have s40:=hρ.at_ 40 4 rfl;have s41:=hρ.at_ 41 5 rfl;have s42:=hρ.at_ 42 6 rfl;have s43:=hρ.at_ 43 7 rfl;have s44:=hρ.at_ 44 8 rfl;have s45:=hρ.at_ 45 9 rfl;have s46:=hρ.at_ 46 10 rfl;have s35:=hρ.at_ 35 11 rfl;have s47:=hρ.at_ 47 12 rfl;have s48:=hρ.at_ 48 13 rfl;have hat:=HAT.out.below hb;have HVW:=QH (qT HVP.out hb);obtain⟨pU,k0,k1,k2,k3,k4,k5,k6,k7,k8,k9,uO⟩:=hat.cells;rcases i with _|_|_|_|_|_|_|_|_|_|_|_|_|_|_|_|i;all_goals (first|omega|skip)
    all_goals simp only[QA,QB,QC,Option.some.injEq]at hop
    all_goals subst hop
    ·exact qa (w':=W) (by unfold execOp;simp only[t0];go_simp) ⟨Below.refl _ _,rfl⟩
    ·have g0:vs 0=_:=hG 0 (by kernel_rfl);exact qa (w':=W) (by unfold execOp;simp only[s36,g0];go_simp) ⟨Below.refl _ _,rfl⟩
    ·have g1:vs 1=_:=hG 1 (by kernel_rfl);exact qa (w':=W) (by unfold execOp;simp only[s37,g1];go_simp) ⟨Below.refl _ _,rfl⟩
    ·have g2:vs 2=_:=hG 2 (by kernel_rfl);exact qa (w':=W) (by unfold zw execOp;simp only[s38,g2];go_simp) ⟨Below.refl _ _,rfl⟩
    ·have g3:vs 3=_:=hG 3 (by kernel_rfl);refine qi (f:=138) (args:=#[.agg (zw A0 A1 A2 c0 c1 c2 m)]) (w':=W) (by unfold execOp;simp only[hc,hfn,s39,g3];go_simp) ((qdy hat.tab.mt hat.sz).mono ?_);rintro e W' ⟨A,c',rfl,h1,h2⟩;exact⟨_,rfl,h2,A,c',by rw[HN1.out],h1⟩
    ·exact qa (w':=W) (by unfold execOp;simp only[t0];go_simp) ⟨Below.refl _ _,rfl⟩
    ·have g5:vs 5=_:=hG 5 (by kernel_rfl);exact qa (w':=W) (by unfold execOp;simp only[s41,g5];go_simp) ⟨Below.refl _ _,rfl⟩
    ·have g6:vs 6=_:=hG 6 (by kernel_rfl);exact qa (w':=W) (by unfold execOp;simp only[s42,g6];go_simp) ⟨Below.refl _ _,rfl⟩
    ·have g7:vs 7=_:=hG 7 (by kernel_rfl);exact qa (w':=W) (by unfold execOp;simp only[s43,g7];go_simp) ⟨Below.refl _ _,rfl⟩
    ·have g8:vs 8=_:=hG 8 (by kernel_rfl);refine qi (f:=43) (args:=#[pt pd]) (w':=W) (by unfold execOp;simp only[hc,hfn,s44,g8];go_simp) ((mO HVW.out.dk).mono ?_);rintro e W' ⟨rfl,rfl⟩;exact⟨_,rfl,Below.refl _ _,by rw[HNN.out];rfl⟩
    ·obtain⟨A,c',g4,h1⟩:=hG 4 (by kernel_rfl);have g9:vs 9=_:=hG 9 (by kernel_rfl);have hcc:=qnZ A c' (xg m) (N:Int) W h1 (by have:=HN1.out;omega) (by unfold ib.qA;omega);rw[HN1.out]at hcc;refine qi (f:=137) (args:=#[.slice A n1 c',.int .i64 (N:Int)]) (w':=W) (by unfold execOp;simp only[hc,hfn,s40,g4,s45,g9];go_simp) (hcc.mono ?_);rintro e W' ⟨A',c'',rfl,h2,h3,_⟩;rw[HCS.out]at h2;refine⟨_,rfl,h3,A',c'',?_,h2⟩;rw[HCS.out,HN2.out]
    ·obtain⟨A,c',g10,h1⟩:=hG 10 (by kernel_rfl);exact qa (w':=W) (by unfold execOp;simp only[s46,g10];go_simp) ⟨Below.refl _ _,A,c',rfl,h1⟩
    ·obtain⟨A,c',g11,h1⟩:=hG 11 (by kernel_rfl);exact qa (w':=W) (by unfold execOp;simp only[s35,g11];go_simp) ⟨Below.refl _ _,A,c',rfl,h1⟩
    ·obtain⟨A,c',g11,h1⟩:=hG 11 (by kernel_rfl);exact qa (w':=W) (by unfold execOp;simp only[s35,g11];go_simp) ⟨Below.refl _ _,rfl⟩
    ·obtain⟨A,c',g12,h1⟩:=hG 12 (by kernel_rfl);exact qa (w':=W) (by unfold execOp;simp only[s47,g12];go_simp) ⟨Below.refl _ _,A,c',rfl,h1⟩
    ·have g13:vs 13=_:=hG 13 (by kernel_rfl);exact qa (w':=W) (by unfold execOp;simp only[s48,g13];go_simp) ⟨Below.refl _ _,rfl⟩
   ·intro vs W hb hG;obtain⟨A,c',g14,h1⟩:=hG 14 (by decide);have g15:vs 15=_:=hG 15 (by decide);simp only[qZ,qM,if_true];rw[g14,g15];generalize vs 0=z0;generalize vs 1=z1;generalize vs 2=z2;generalize vs 3=z3;generalize vs 4=z4;generalize vs 5=z5;generalize vs 6=z6;generalize vs 7=z7;generalize vs 8=z8;generalize vs 9=z9;generalize vs 10=z10;generalize vs 11=z11;generalize vs 12=z12;generalize vs 13=z13;have yX:=QH (qc HB.out hb);have HIW:=QH h1;have HOW:=QH (HO1.out.below hb);clear hG g14 g15 hb h1 HO1 HVP HAT qkZ hvl;simp only[Act.put,List.setIfInBounds_toArray,List.set_cons_succ,List.set_cons_zero];refine⟨by kernel_rfl,?_⟩;have pq:=qww A c' cs ((full x:Nat):Int) W HIW.out (by omega) (by unfold ib.qA;omega);rw[HN2.out]at pq;have xY:=QH pq;have HV1:Hid ((yS cs ((full x:Nat):Int)).2≠0→qL N m x=(([],[]),(yS cs ((full x:Nat):Int)).2)):=fun hne=>by unfold qL;rw[HCS.out];exact if_neg hne
    have fz:Hid ((yS cs ((full x:Nat):Int)).2=0→qL N m x=(qg (yS cs ((full x:Nat):Int)).1 x,0)):=fun he=>by unfold qL;rw[HCS.out];exact if_pos he
    have HTL:=QH (fun h=>pX (cs:=cs) (n:=full x) h);obtain⟨R1,hR1⟩:=QE ((yS cs ((full x:Nat):Int)).1);obtain⟨R2,hR2⟩:=QE ((yS cs ((full x:Nat):Int)).2);have ua:yS cs ((full x:Nat):Int)=(R1,R2):=by rw[← hR1,← hR2]
    rw[ua]at xY;rw[hR1,hR2]at fz HTL;rw[hR2]at HV1;obtain⟨V,hV⟩:=QE (qL N m x);rw[hV]at fz HV1;have HVE:=QH hV;obtain⟨bv,hbv⟩:=QE (Value.slice VA x.length vc);have tB:=QH hbv;have HVV:=QH HVA.out;rw[HVV.out,hbv]at HOW ⊢;clear pq hR1 hR2 ua hV hbv HCS HVA HVV HIW;go_wp2_with fail;refine xY.out.mono ?_;rintro e W2 ⟨A',cc,rfl,hi2,hb2,hnew,qor⟩;have qG:=QH (qc yX.out hb2);have wk:=QH (HOW.out.below hb2);clear xY;by_cases h0:R2=0
    case' neg =>
     have hne:(R2 != 0)=true:=by simpa using h0
     have HV:=QH (HV1.out h0);have HNE:=QH h0;clear h0 HV1 fz HTL hi2 hb2 hnew qor;go_wp2_with fail;go_ret2;rw[HVE.out,HV.out];exact⟨qG.out,.inl ⟨HNE.out,rfl⟩⟩
    subst h0;have HV:=QH (fz.out rfl);have hroom:=HTL.out rfl;clear fz HV1 HTL;have qot:=tB.out;by_cases hx0:x.length=0
    ·have hPL:PL x (qg R1 x).1=[]:=by rw[List.length_eq_zero_iff.1 hx0];rfl
     have hP0:P0 x=[]:=by rw[List.length_eq_zero_iff.1 hx0];rfl
     have HPL:=QH hPL;have ho2:=wk.out;rw[hP0]at ho2;have HOE:=QH ho2;have q1C:((x.length:Nat):Int)=0:=by omega
     obtain⟨xl,q1D⟩:=QE ((x.length:Nat):Int);rw[q1D]at q1C;have hbe:=tB.out;rw[hx0]at hbe;subst hbe;clear hPL hP0 ho2 tB hi2 hb2 hnew qor wk HOW yX hroom qot;go_wp2_with fail;go_loopw [63] (fun i wr=>i=.int .i64 0∧wr=W2) (fun _ _=>0);case atStart=>exact⟨rfl,rfl⟩
     case round =>
      obtain⟨rfl,rfl⟩:=hrel;go_wp2_with fail;go_ret2;refine⟨qG.out,.inr ⟨by rw[HVE.out,HV.out],_,rfl,?_⟩⟩;rw[HVE.out,HV.out];show tr _ w.heap.size _ (PL x (qg R1 x).1);rw[HPL.out];exact HOE.out
    ·obtain⟨g,hg⟩:∃g,bv=.slice (some ⟨g,0,none⟩) x.length vc:=by
        rcases wk.out.2 with⟨e,h0⟩|⟨g',cap,cur,e,_⟩
        ·have:(P0 x).length=x.length:=by unfold P0;rw[List.length_map]
         omega
        ·rw[← qot]at e;simp only[Value.slice.injEq]at e;exact⟨g',by rw[← qot,e.1]⟩
     have hgW:g<W.heap.size:=(HOW.out.lt g (by rw[hg];rfl)).2;have HS0:Hid (gS W2 g A' R1):=fun i hi=>by
      obtain⟨b',o',h1,h2,h3,_⟩:=hi2 i hi;have:=(hnew b' o' h1).1;exact⟨b',o',h1,by omega,h2,h3⟩
     have HO3:Hid (tr W2 w.heap.size bv (Pw x [])):=by unfold Hid;rw[qsg];exact wk.out
     have HK0:=QH (Pk.start x R1 hroom);have HLC:=QH qor;subst hg;clear qot tB hi2 hb2 hnew qor wk HOW yX hroom;go_wp2_with fail;go_loopw [12,13,63] (fun s _ i wr=>Pl2 x R1 w.heap.size (.slice (some ⟨g,0,none⟩) x.length vc) g w s i wr) (fun _ _ i _=>x.length-(intOf i).toNat);case atStart=>exact⟨0,[],R1,A',cc,rfl,rfl,HLC.out,HK0.out,HS0.out,HO3.out,qG.out⟩
     case round =>
      obtain⟨k,pre,pV,A3,c3,rfl,rfl,qsj,hpk,qke,hop,hB⟩:=hrel;have HPK:=QH hpk;have qxg:=QH qke;have HOP:=QH hop;have HB:=QH hB;have iO:=hpk.le;have hpl:=hpk.len;clear hpk qke hop hB;by_cases hlt:k<x.length
      ·have ja:(k:Int)<(x.length:Int):=by omega
       have hk0:¬ (k:Int)<0:=by omega
       have hkw:k<(Pw x pre).length:=by rw[nj (by omega)];exact hlt
       obtain⟨a3,c4,e3,qb7⟩:=HOP.out.view;simp only[Value.slice.injEq]at e3;obtain⟨rfl,q1E,rfl⟩:=e3;clear q1E;obtain⟨b',o',e4,s1,s2,s3,s4⟩:=qb7 k hkw;simp only[Option.some.injEq,Addr.mk.injEq,and_true]at e4;obtain⟨rfl,rfl⟩:=e4;rw[qkX hpl hlt hkw]at s4;have q1F:=H32.out _ (List.getElem_mem hlt);have HZ:Hid (∀W,Calls prog 136 #[.string (str x[k].2)] W (kE (decide (x[k].2=zb)) W)):=fun W=>ic _ q1F W;have qla:=QH (fun hz=>HPK.out.zero hlt hz);have qlb:=QH (fun hz=>HPK.out.more hlt hz);have HPZ:=QH (qoq (x:=x) hpl hlt);dsimp only at s4;rw[Nat.zero_add]at s4;obtain⟨S,hS⟩:=QE (str x[k].2);rw[hS]at s4 HZ;clear qb7 s2 s3 hS;go_wp2_with fail;refine(HZ.out _).mono ?_;rintro e W6 ⟨rfl,wG⟩;have dJ:=QH (qc HB.out wG);have qsk:=QH (HOP.out.below wG);have qlc:=QH (qxg.out.below wG);clear wG HZ HOP qxg s1 s4;by_cases hz:x[k].2=zb
       ·rw[decide_eq_true hz];have qou:=QH (qla.out hz);clear hz qla qlb;go_wp2_with fail;go_roundw;case rel=>exact⟨k+1,pre++[0],pV,A3,c3,by go_num,rfl,qsj,qou.out,qlc.out,by rw[HPZ.out];exact qsk.out,dJ.out⟩
        case measure=>simp[intOf];omega
       ·rw[decide_eq_false hz];obtain⟨f,r,hfr,qxh⟩:=qlb.out hz;have qou:=QH qxh;subst hfr;obtain⟨b3,o3,rfl,n1,n2,n3⟩:=qlc.out 0 (by simp);have HT:=QH qlc.out.tail;obtain⟨qsl,hfz,hgB,jQ⟩:=qsk.out.set k hkw f;rw[qkX hpl hlt hkw,qkY hpl hlt f]at qsl;have qxi:=QH qsl;have HB7:Hid (Below w.heap.size w (W6.setCell ⟨g,k*3+1,none⟩ (.int .i64 f))):=dJ.out.setCell (p:=⟨g,k*3+1,none⟩) hgB _;obtain⟨a5,c5,e5,qb7⟩:=qsk.out.view;simp only[Value.slice.injEq]at e5;obtain⟨rfl,q1G,rfl⟩:=e5;clear q1G;obtain⟨b',o',e4,s1,s2,s3,s4⟩:=qb7 k hkw;simp only[Option.some.injEq,Addr.mk.injEq,and_true]at e4;obtain⟨rfl,rfl⟩:=e4;rw[Nat.zero_add]at s3;simp only[List.getElem_cons_zero,Nat.add_zero]at n3;have zbH:(0:Int)<((r.length+1:Nat):Int):=by omega
        have zbI:(1:Int)≤((r.length+1:Nat):Int):=by omega
        have hrc:((r.length+1:Nat):Int)≤(c3:Int):=by rw[List.length_cons]at qsj;omega
        rw[List.length_cons]at qsj ⊢;clear hz qla qlb qxh qsl qb7 s2 s4;go_wp2_with fail;go_region;go_wp2_with fail;all_goals
         refine⟨?_,by simp[intOf];omega⟩;by_cases hc1:c3=1
         ·have hr0:r.length=0:=by omega
          rw[if_pos hc1];exact⟨k+1,pre++[f],r,_,_,rfl,rfl,by omega,qou.out,(fun i hi=>absurd hi (by omega)),qxi.out.below (Below.refl _ _).drew,HB7.out.drew⟩
         ·rw[if_neg hc1];exact⟨k+1,pre++[f],r,_,_,rfl,rfl,by omega,qou.out,HT.out.set.below (Below.refl _ _).drew,qxi.out.below (Below.refl _ _).drew,HB7.out.drew⟩
      ·obtain rfl:k=x.length:=by omega
       have ja:¬ (x.length:Int)<(x.length:Int):=by omega
       have HE:=QH HPK.out.stop;have HPA:=QH (qsh (x:=x) hpl);go_wp2_with fail;go_ret2;refine⟨HB.out,.inr ⟨by rw[HVE.out,HV.out],_,rfl,?_⟩⟩;rw[HVE.out,HV.out];show tr wr w.heap.size _ (PL x (qg R1 x).1);rw[HE.out,← HPA.out];exact HOP.out
section
variable {o1 o2:Nat→Prop} {w w1 w':World} {v pd N b:Nat} {d:DD} {m:Mt} {t:Tg} {Q:Int→DD→Mt→Bool→Prop} {e:Ending}
theorem qsm(hb:Below w.heap.size w w1)(h:qwP w.heap.size o1 o2 v pd Q w1 e w'):sF gI o1 o2 v pd Q w e w':=by
 obtain⟨r,d',m',lost,ov,eG,h1,h2,h3,h4,h5⟩:=h;exact⟨r,d',m',lost,ov,eG,h1,h2,(ib.qB.of_below (S:=fun j=>o1 j∨o2 j) hb).trans h3 (fun _ h=>.inl h),h4,h5⟩
theorem qb8{l:Bool}{r:Int}(h:VP gI w' o1 o2 v pd d m l)(hb:Below w.heap.size w w')(hq:Q r d m l):sF gI o1 o2 v pd Q w (.returned (.int .i64 r)) w' :=
 ⟨r,d,m,l,o1,o2,rfl,h,ib.qB.of_below hb,fun j hj=>.inl hj,hq⟩
theorem qld(h:VP gI w o1 o2 v pd d m false):∀j,o1 j∨o2 j∨j=gN→j<w.heap.size:=fun j hj=>by
 rcases hj with hj|hj|hj
 ·exact sI h.is j (.inl hj)
 ·exact eH h.dk j hj
 ·exact sI h.is j (.inr hj)
end
theorem qdZ{b N:Nat}{m:Mt}{x:List (Int × Bt)}(vD:jm b N m)(hN:N≤1024)(h0:(qL N m x).2=0):na (PL x (qL N m x).1.1)=(qL N m x).1.2:=by
 obtain⟨cs,hcs,hcl,_,_⟩:=aD vD hN;unfold qL at h0 ⊢;rw[hcs]at h0 ⊢;dsimp only at h0 ⊢;by_cases hz:(yS cs ((full x:Nat):Int)).2=0
 ·rw[if_pos hz];have hl:=pX hz;refine eQ x _ (fun f hf=>?_) hl;have hst:(yS cs ((full x:Nat):Int)).1=(qP cs cs.length).take (full x):=by
   unfold yS at hz ⊢;rw[if_neg (by omega)]at hz ⊢;by_cases hf:(xW cs:Int)<((full x:Nat):Int)
   ·rw[if_pos hf]at hz;simp at hz
   ·rw[if_neg hf,Int.toNat_natCast]
  rw[hst]at hf;obtain⟨j,e,g1,_,_⟩:=eB.1 (List.mem_of_mem_take hf);omega
 ·rw[if_neg hz]at h0;exact absurd h0 hz
theorem qxj{b N:Nat}{m:Mt}{x:List (Int × Bt)}{at_:List Int}{ws:List jr.Wr}(hp:mg N m x at_ ws)(hN:N≤1024)(hc:xw b (-1) x=true):∀p∈PL x at_,0≤p.1∧p.1<(b:Int)∧0≤p.2.1∧qA p.2.1:=by
 intro p hm;obtain⟨i,hi,rfl⟩:=List.getElem_of_mem hm;have hx:i<x.length:=by unfold PL at hi;simp at hi;omega
 have ha:i<at_.length:=by unfold PL at hi;simp at hi;omega
 have e:(PL x at_)[i]=(x[i].1,at_[i],x[i].2):=by simp[PL]
 rw[e];have h1:=gH hc _ (List.getElem_mem hx);refine⟨by show 0≤x[i].1;omega,h1.2.2,?_⟩;show 0≤at_[i]∧qA at_[i];rcases hp.each i hx ha with⟨_,h⟩|⟨_,h⟩
 ·rw[h];exact⟨by omega,by unfold qA;omega⟩
 ·have hr:=hp.wok.range _ h;dsimp only at hr;exact⟨by omega,by unfold qA;omega⟩
theorem qsn{x:List (Int × Bt)}{at_:List Int}(h:at_.length=x.length):(PL x at_).length=x.length:=by unfold PL;rw[List.length_zipWith];omega
theorem vr.form{G:Nat→Prop}{w:World}{f:Value}{m m':Mt}(h:vr G w f m m'):∃k kU,f=.func (.func k) #[] kU:=by
 obtain⟨k,kU,h1,_⟩:=h;exact⟨k,kU,h1⟩
theorem qle{G:Nat→Prop}{w:World}{f:Value}{m m':Mt}{b:Nat}(hk:qh w b 129 #[f])(h:vr G w f m m'):qdQ G w (some ⟨b,0,none⟩) 1 (fun i=>if i=0 then m else m'):=fun i hi=>by
 obtain rfl:i=0:=by omega
 exact⟨b,0,f,rfl,hk.lt,hk.cell 0,h⟩
theorem qea{G:Nat→Prop}{w:World}{f g k:Value}{m m1 m2 m3:Mt}{b:Nat}(hk:qh w b 129 #[f,g,k])(h1:vr G w f m m1)(h2:vr G w g m1 m2)(h3:vr G w k m2 m3):qdQ G w (some ⟨b,0,none⟩) 3 (fun i=>if i=0 then m else if i=1 then m1 else if i=2 then m2 else m3):=fun i hi=>by
 match i,hi with
 | 0,_=>exact⟨b,0,f,rfl,hk.lt,hk.cell 0,h1⟩
 | 1,_=>exact⟨b,0,g,rfl,hk.lt,hk.cell 1,h2⟩
 | 2,_=>exact⟨b,0,k,rfl,hk.lt,hk.cell 2,h3⟩
theorem qb9{N:Nat}{t:Tg}{d:DD}{m:Mt}{c:Int}(h:c≠0):qg1 N t d m ⟨c,m,[]⟩ c d m false:=.inl ⟨h,rfl,rfl,rfl,rfl⟩
theorem qfe{o1 o2:Nat→Prop}{w w1:World}{v pd N b n:Nat}{d:DD}{m:Mt}{t:Tg}{pn:qgv}{M:Nat→Mt}(h:VP gI w o1 o2 v pd d m false)(hb:Below w.heap.size w w1)(hJ:jr.JJ N t d)(hf:0≤d.qz)(hR:yz b N t m)(hc:pn.code=0)(hdo:jm b N pn.m∧sA N m pn.ws)
    (hM0:M 0=m) (hMn:M n=pn.m) {A:Option Addr} {c:Nat} (hE:qdQ (fun j=>(o1 j∧j≠v)∨w.heap.size≤j) w1 A n M) (hn:n≤10) {B:Option Addr} {cb:Nat} {P:List Pl} (hP:PlL w1 B P) (hpl:P.length≤100) (hPW:na P=pn.ws) :
    Calls prog 63 #[pt v,.slice B P.length cb,.slice A n c] w1 (sF gI o1 o2 v pd (qg1 N t d m pn) w):=by
 have hpn:pn=⟨0,pn.m,pn.ws⟩:=by rw[← hc]
 rw[hpn];refine(qdR (qT h hb) hJ hf hR hb.size (qld h) hM0 hMn hdo.1 hdo.2 hE hn hP hpl hPW).mono ?_;rintro e W hx;exact qsm hb hx
end Go.Proofs.YtdpbdkacngaemaaGreatDoor.vt.pg
namespace Go.Proofs.YtdpbdkacngaemaaGreatDoor.vt.pg
open _root_.Go.Proofs.Tryz Go Go.RowKit Go.Sort ib mt im sp
theorem qlf:TkB yg:=⟨by simp[zV,yg],by simp[zV,yg],by simp[qA,yg],by simp[qA,yg]⟩
section
variable {o1 o2:Nat→Prop} {w w1 w':World} {v pd:Nat} {d:DD} {m:Mt} {l:Bool}
end
end Go.Proofs.YtdpbdkacngaemaaGreatDoor.vt.pg

/- MgCk, MgPut, WiRefP, MtNums, MtGdB, MtSize, SlotsP, MtEnc, MgEnc, MtProg, DkPure, DkMap, DkMem. -/
import Derived.Test.YtdpbdkacngaemaaGreatDoorZK5
import Derived.Lib.BufferWrite
set_option linter.unusedVariables false
set_option linter.unusedSimpArgs false
set_option maxHeartbeats 30000000
set_option maxRecDepth 100000
namespace Go.Proofs.YtdpbdkacngaemaaGreatDoor.mt.pg
open _root_.Go.Proofs.Tryz Go Go.RowKit ib wi im mt
def qzZ (gl:Nat)(b n:Int)(xs:List Sp)(w:World)(i:Value)(wr:World):Prop :=
 ∃(k:Nat) (last:Gd),k≤xs.length∧i=.int .i64 (k:Int)∧qh wr gl 38 #[.int .u64 (last.1:Int),.int .u64 (last.2:Int)]∧xN b n (0,0) xs=xN b n last (xs.drop k)∧qB (fun j=>j=gl) w wr
theorem dv (v:Value)(m:Mt)(b n:Int)(w:World)(h:nR w v m)(hs:mtS m)(hbB:qA b)(hnB:qA n):Calls prog 53 #[v,.int .i64 b,.int .i64 n] w (ai (xf m b n) w):=by
 obtain⟨A0,A1,A2,c0',c1',c2',rfl,hm⟩:=h;have HM:=QH hm;have po:=QH hs;have HNB:=QH (And.intro hbB hnB);clear hm hs hbB hnB;have hb0:=(Below.refl w.heap.size w).alloc (Nat.le_refl _) (.cells (zw A0 A1 A2 c0' c1' c2' m) 103);have jT:=QH hb0;have HM0:=QH (HM.out.below hb0);have iu:=QH (qh.new w 103 (zw A0 A1 A2 c0' c1' c2' m));obtain⟨w0,hw0⟩:=QE (w.alloc (.cells (zw A0 A1 A2 c0' c1' c2' m) 103));rw[hw0]at jT HM0 iu;clear hb0;have c0:=iu.out.cell 0;unfold zw at c0 hw0 ⊢;simp only[QA,QB,QC]at c0;have hlt:=iu.out.lt;obtain⟨res,hres⟩:=QE (xf m b n);rw[hres];have xn:=QH hres;clear hres;go_enter func53,ntmps53;go_wp2_with fail;try rw[hw0]
 clear hw0 c0 hlt;refine(ak A0 c0' m.live b n w0 HM0.out.live po.out.live HNB.out.1 HNB.out.2).mono ?_;rintro e W1 ⟨rfl,hb1⟩;have qU:=QH (qc jT.out hb1);have HM1:=QH (HM0.out.below hb1);have cB:=QH (iu.out.below hb1);clear hb1 iu HM0 jT;obtain⟨er,her⟩:=QE (zA m.live b n);rw[her];have HER:=QH her;clear her;by_cases he:er=0
 case' neg =>
  have hne:(er != 0)=true:=by simpa using he
  have hr:res=er:=by rw[← xn.out];unfold xf;rw[HER.out,if_pos he]
  have HR:=QH hr;clear hr he;go_wp2_with fail;go_ret;exact⟨by rw[HR.out];rfl,qU.out⟩
 case' pos =>
  subst he
 have c1:=cB.out.cell 1;simp only[zw,QA,QB,QC]at c1;have hlt:=cB.out.lt;by_cases hl:20<m.qd.length
 case' pos =>
  have cE:(20:Int)<(m.qd.length:Int):=by omega
  have hr:res=3:=by rw[← xn.out];exact qa8 HER.out hl
  have HR:=QH hr;clear hr hl;go_wp2_with fail;go_ret;exact⟨by rw[HR.out];rfl,qU.out⟩
 have cE:¬ (20:Int)<(m.qd.length:Int):=by omega
 have hres:(if (xN b n (0,0) m.qd).1≠0 then(xN b n (0,0) m.qd).1 else kz b n (xN b n (0,0) m.qd).2 m.tok)=res:=by
  rw[← xn.out];exact(qfU HER.out hl).symm
 have oW:=QH hres;have q0a:Hid (m.qd.length≤20):=by unfold Hid;omega
 clear hres hl xn HER;have hb2:=(Below.refl _ W1).alloc (Nat.le_refl _) (.cells #[.int .u64 0,.int .u64 0] 38);have qG:=QH (qc qU.out hb2);have HM2:=QH (HM1.out.below hb2);have uT:=QH (cB.out.below hb2);have rQ:=QH (qh.new W1 38 #[.int .u64 0,.int .u64 0]);have HGL:Hid (w.heap.size<W1.heap.size):=cB.out.lt;clear hb2;obtain⟨gl,jQ⟩:=QE W1.heap.size;obtain⟨W2,hW2⟩:=QE (W1.alloc (.cells #[.int .u64 0,.int .u64 0] 38));rw[hW2]at qG HM2 uT rQ;have d1:=uT.out.cell 1;simp only[zw,QA,QB,QC]at d1;have hlt2:=uT.out.lt;go_upto_region 7 with fail;try rw[hW2]
 clear hW2 c1 hlt;go_wp2_with fail;rw[jQ]at HGL rQ;try rw[jQ]
 clear d1 hlt2 cB HM1 qU;clear jQ;obtain⟨len,hlen⟩:=QE m.qd.length;have HLEN:=QH hlen;rw[hlen]at q0a ⊢;clear hlen;go_loopw [10,11,27] (fun _ _ i wr=>qzZ gl b n m.qd W2 i wr) (fun _ _ i _=>m.qd.length-(intOf i).toNat);case atStart=>exact⟨0,(0,0),Nat.zero_le _,rfl,rQ.out,rfl,qB.refl _ _⟩
 case round =>
  obtain⟨k,last,hk,rfl,hbl,hsn,iy⟩:=hrel;have HLA:=QH hbl;have uh:=QH hsn;have rR:=QH iy;have yX:Hid (Below w.heap.size w wr):=qG.out.trans (iy.below (fun j hj=>by rw[hj];exact Nat.le_of_lt HGL.out) qG.out.size);have HMW:=QH (HM.out.below yX.out);have tS:=QH (uT.out.of_block (iy.block _ uT.out.lt (fun e=>by have:=HGL.out;omega)));rw[HLEN.out]at hk;clear hbl hsn iy;by_cases hlt:k<len
  ·have ja:(k:Int)<(len:Int):=by omega
   have hkm:k<m.qd.length:=by rw[HLEN.out];exact hlt
   obtain⟨bb,bo,B,cb,hA1,hlb,e0,e1,e2,e3,dG,hgd⟩:=HMW.out.qd k hkm;obtain⟨x,hx⟩:=QE (m.qd[k]);rw[hx]at e0 e1 e2 e3 dG hgd;have HDR:Hid (m.qd.drop k=x::m.qd.drop (k+1)):=by rw[← hx];exact List.drop_eq_getElem_cons hkm
   have HXS:Hid (x.qp.length≤1000):=by rw[← hx];exact po.out.wM _ (List.getElem_mem hkm)
   subst hA1;have HSL:=QH dG;clear dG hgd hx HMW;obtain⟨W3,hW3⟩:=QE (wr.alloc (.cells (snC x B cb) 141));have hb3:Below wr.heap.size wr W3:=by rw[← hW3];exact(Below.refl _ wr).alloc (Nat.le_refl _) _
   have hS:qh W3 wr.heap.size 141 (snC x B cb):=by rw[← hW3];exact qh.new _ _ _
   have zG:=QH hb3;have HS3:=QH hS;have HL3:=QH (HLA.out.below hb3);have x0:=hS.cell 0;have x1:=hS.cell 1;have hlx:=hS.lt;have l0:=HL3.out.cell 0;have l1:=HL3.out.cell 1;have rS:=HL3.out.lt;simp only[snC,QA,QB,QC]at x0 x1 l0 l1;unfold snC at hW3;clear hS hb3;have HAB:=QH (uU x.g last W3);unfold gv at HAB;go_upto_region 10 with fail;try rw[hW3]
   clear hW3 e0 e1 e2 e3;obtain⟨gs,tQ⟩:=QE wr.heap.size;have HGS:=QH tQ;rw[tQ]at x0 x1 hlx HS3;try rw[tQ]
   clear tQ;go_wp2_with fail;refine HAB.out.mono ?_;rintro e W4 ⟨rfl,hb4⟩;have zY:=QH (qc zG.out hb4);have nZ:=QH (HS3.out.below hb4);have HL4:=QH (HL3.out.below hb4);have hS:=nZ.out;have x1':=hS.cell 2;have hlx:=hS.lt;simp only[snC,QA,QB,QC]at x1';clear hb4 x0 x1 l0 l1 rS hS HS3 HL3;obtain⟨q,hq⟩:=QE (above x.g last);rw[hq];cases q with
   | false =>
    have HR:Hid (res=2):=by
     unfold Hid;rw[← oW.out,uh.out,HDR.out,qfV hq];rfl
    clear hq;go_wp2_with fail;go_ret;exact⟨by rw[HR.out];rfl,qc yX.out zY.out⟩
   | true =>
    have HQ:=QH hq;clear hq;go_wp2_with fail;refine(ak B cb x.qp b n W4 (HSL.out.below zY.out) HXS.out HNB.out.1 HNB.out.2).mono ?_;rintro e W5 ⟨rfl,hb5⟩;have jU:=QH (qc zY.out hb5);have iz:=QH (nZ.out.below hb5);have HL5:=QH (HL4.out.below hb5);clear hb5 x1' hlx nZ HL4;obtain⟨ei,hei⟩:=QE (zA x.qp b n);rw[hei];by_cases he:ei=0
    ·subst he;have HN:Hid (xN b n (0,0) m.qd=xN b n x.g (m.qd.drop (k+1))):=by
      unfold Hid;rw[uh.out,HDR.out,qcO HQ.out hei]
     have x0:=iz.out.cell 0;have x1:=iz.out.cell 1;have hlx:=iz.out.lt;have rS:=HL5.out.lt;have l0:=HL5.out.cell 0;have l1:=HL5.out.cell 1;have f0:=HL5.out.frozen 0;have f1:=HL5.out.frozen 1;simp only[snC,QA,QB,QC]at x0 x1 l0 l1;clear hei;go_wp2_with fail;have HL6:=QH ((HL5.out.qu 0 (.int .u64 (x.g.1:Int))).qu 1 (.int .u64 (x.g.2:Int)));go_roundw;case rel =>
      refine⟨k+1,x.g,by rw[HLEN.out];omega,by go_num,HL6.out,HN.out,?_⟩;have hbt:qB (fun j=>j=gl) W2 W5:=rR.out.trans (qB.of_below jU.out) (fun i hi=>.inl hi);exact(hbt.setCell _ _ (.inl rfl)).setCell _ _ (.inl rfl)
     case measure=>simp[intOf];have:=HLEN.out;omega
    ·have hne:(ei != 0)=true:=by simpa using he
     have HR:Hid (res=ei):=by
      unfold Hid;rw[← oW.out,uh.out,HDR.out,qfW HQ.out (by rw[hei];exact he),hei];simp[he]
     clear hei he;go_wp2_with fail;go_ret;exact⟨by rw[HR.out];rfl,qc yX.out jU.out⟩
  ·have ja:¬ (k:Int)<(len:Int):=by omega
   have hsn:xN b n (0,0) m.qd=(0,last):=by
    rw[uh.out,List.drop_eq_nil_of_le (by have:=HLEN.out;omega)];rfl
   have HR:Hid (kz b n last m.tok=res):=by
    unfold Hid;rw[← oW.out,hsn];simp
   have HT:=QH (lu m.tok A2 c2' last b n wr (HM.out.qp.below yX.out) po.out.qp HNB.out.1 HNB.out.2);rw[HR.out]at HT;unfold gv wD at HT;have c2:=tS.out.cell 2;have c3:=tS.out.cell 3;have c4:=tS.out.cell 4;have c5:=tS.out.cell 5;have c6:=tS.out.cell 6;have c7:=tS.out.cell 7;have c8:=tS.out.cell 8;have l0:=HLA.out.cell 0;have l1:=HLA.out.cell 1;have dI:=tS.out.lt;have rS:=HLA.out.lt;simp only[zw,QA,QB,QC]at c2 c3 c4 c5 c6 c7 c8 l0 l1;clear hsn uh;go_wp2_with fail;refine HT.out.mono ?_;rintro e W4 ⟨rfl,hb4⟩;have zY:=QH (qc yX.out hb4);clear hb4 c2 c3 c4 c5 c6 c7 c8 l0 l1;go_wp2_with fail;go_ret;exact⟨rfl,zY.out⟩
theorem qjn(L:List UInt8)(z:Int)(W:World)(h0:0≤z)(h1:z≤9223372036854775807)(hs:L.length≤100000) :
    Calls prog 245 #[.string (str L),.slice (some ⟨W.heap.size,0,none⟩) 1 1] (W.alloc (.cells #[.int .i64 z] 3)) (fun e w'=>e=.returned (.string (str (L++xz z)))∧Below W.heap.size W w'):=by
 have h:=kh L (some ⟨W.heap.size,0,none⟩) 1 [z] (W.alloc (.cells #[.int .i64 z] 3)) (wL W [z] (by intro x hx;simp only[List.mem_cons,List.not_mem_nil,or_false]at hx;subst hx;unfold qA;omega)) (by intro x hx;simp only[List.mem_cons,List.not_mem_nil,or_false]at hx;subst hx;exact h0) hs (by simp);refine h.mono ?_;rintro e w' ⟨rfl,hb⟩;exact⟨by simp[zi],qc ((Below.refl _ W).alloc (Nat.le_refl _) _) hb⟩
theorem q0b(L:List UInt8)(z y:Int)(W:World)(h0:0≤z)(h1:z≤9223372036854775807)(h2:0≤y)(h3:y≤9223372036854775807)(hs:L.length≤100000) :
    Calls prog 245 #[.string (str L),.slice (some ⟨W.heap.size,0,none⟩) 2 2] (W.alloc (.cells #[.int .i64 z,.int .i64 y] 3)) (fun e w'=>e=.returned (.string (str (L++(xz z++xz y))))∧Below W.heap.size W w'):=by
 have h:=kh L (some ⟨W.heap.size,0,none⟩) 2 [z,y] (W.alloc (.cells #[.int .i64 z,.int .i64 y] 3)) (wL W [z,y] (by intro x hx;simp only[List.mem_cons,List.not_mem_nil,or_false]at hx;unfold qA;rcases hx with rfl|rfl <;> omega)) (by intro x hx;simp only[List.mem_cons,List.not_mem_nil,or_false]at hx;rcases hx with rfl|rfl <;> assumption) hs (by simp);refine h.mono ?_;rintro e w' ⟨rfl,hb⟩;exact⟨by simp[zi],qc ((Below.refl _ W).alloc (Nat.le_refl _) _) hb⟩
theorem qa9(W:World)(l:List Nat)(h:∀z∈l,z<18446744073709551616)(t:TypeId):qjl (W.alloc (.cells (l.map fun(n:Nat)=>Value.int .u64 (n:Int)).toArray t)) (some ⟨W.heap.size,0,none⟩) l:=fun i hi =>
 ⟨W.heap.size,0,rfl,by simp,by rw[Nat.zero_add,(qh.new W t _).cell i];simp[hi],h _ (List.getElem_mem hi)⟩
theorem q0c(L:List UInt8)(g:Gd)(W:World)(hg:zV g)(hs:L.length≤100000) :
    Calls prog 246 #[.string (str L),.slice (some ⟨W.heap.size,0,none⟩) 2 2] (W.alloc (.cells #[.int .u64 (g.1:Int),.int .u64 (g.2:Int)] 36)) (fun e w'=>e=.returned (.string (str (L++jn g)))∧Below W.heap.size W w'):=by
 have h:=qa6 L (some ⟨W.heap.size,0,none⟩) 2 [g.1,g.2] (W.alloc (.cells #[.int .u64 (g.1:Int),.int .u64 (g.2:Int)] 36)) (qa9 W [g.1,g.2] (by intro x hx;simp only[List.mem_cons,List.not_mem_nil,or_false]at hx;rcases hx with rfl|rfl;exact hg.1;exact hg.2) _) hs (by simp);refine h.mono ?_;rintro e w' ⟨rfl,hb⟩;exact⟨by simp[uV,jn],qc ((Below.refl _ W).alloc (Nat.le_refl _) _) hb⟩
theorem qvb(L:List UInt8)(g y:Gd)(W:World)(hg:zV g)(hy:zV y)(hs:L.length≤100000) :
    Calls prog 246 #[.string (str L),.slice (some ⟨W.heap.size,0,none⟩) 4 4] (W.alloc (.cells #[.int .u64 (g.1:Int),.int .u64 (g.2:Int),.int .u64 (y.1:Int),.int .u64 (y.2:Int)] 36)) (fun e w'=>e=.returned (.string (str (L++(jn g++jn y))))∧Below W.heap.size W w'):=by
 have h:=qa6 L (some ⟨W.heap.size,0,none⟩) 4 [g.1,g.2,y.1,y.2] (W.alloc (.cells #[.int .u64 (g.1:Int),.int .u64 (g.2:Int),.int .u64 (y.1:Int),.int .u64 (y.2:Int)] 36)) (qa9 W [g.1,g.2,y.1,y.2] (by intro x hx;simp only[List.mem_cons,List.not_mem_nil,or_false]at hx;rcases hx with rfl|rfl|rfl|rfl;exact hg.1;exact hg.2;exact hy.1;exact hy.2) _) hs (by simp);refine h.mono ?_;rintro e w' ⟨rfl,hb⟩;exact⟨by simp[uV,jn],qc ((Below.refl _ W).alloc (Nat.le_refl _) _) hb⟩
def tkP (t:Tk):List UInt8:=if t=yg then zk 0 else zk 1++(jn t.base++(jn t.target++(xz t.next++(xz t.all++zi t.qp))))
structure TkF(t:Tk):Prop where
 base:zV t.base
 target:zV t.target
 next:0≤t.next∧t.next≤9223372036854775807
 all:0≤t.all∧t.all≤9223372036854775807
 qp:∀z∈t.qp,0≤z
 few:t.qp.length≤100
theorem rT (L:List UInt8)(t:Tk)(A:Option Addr)(c:Nat)(w:World)(h:yU w A t.qp c)(ht:TkF t)(hs:L.length≤50000):Calls prog 248 #[.string (str L),.agg (wD t A c)] w (qmX (L++tkP t) w):=by
 have HT:=QH ht;have HS:=QH hs;have hb:=(Below.refl w.heap.size w).alloc (Nat.le_refl _) (.cells (wD t A c) 82);have ha:=qh.new w 82 (wD t A c);obtain⟨W,hW⟩:=QE (w.alloc (.cells (wD t A c) 82));rw[hW]at hb ha;have HI:=QH (h.below hb);have HN:=QH (lr t A c W HI.out (by have:=ht.few;omega));have HB:=QH hb;have HA:=QH ha;have a0:=ha.cell 0;have a1:=ha.cell 1;have a2:=ha.cell 2;have a3:=ha.cell 3;have a4:=ha.cell 4;have a5:=ha.cell 5;have a6:=ha.cell 6;have dI:=ha.lt;simp only[wD,QA,QB,QC]at a0 a1 a2 a3 a4 a5 a6;clear hb ha h hs ht;unfold wD at hW HN ⊢;go_enter func248,ntmps248;go_upto_region 1 with fail;try rw[hW]
 clear hW;go_wp2_with fail;refine HN.out.mono ?_;rintro e W1 ⟨rfl,hb1⟩;have qU:=QH (qc HB.out hb1);have cB:=QH (HA.out.below hb1);have HI1:=QH (HI.out.below hb1);clear hb1 a0 a1 a2 a3 a4 a5 a6 dI HN HA HI HB;by_cases h0:t=yg
 ·have HR:Hid (tkP t=xz 0):=by unfold Hid tkP;rw[if_pos h0];rfl
  rw[decide_eq_true h0];clear h0;go_wp2_with fail;refine(lq false W1).mono ?_;rintro e _ ⟨rfl,rfl⟩;dsimp only;go_wp2_with fail;refine(qjn L 0 _ (by omega) (by omega) (by have:=HS.out;omega)).mono ?_;rintro e W2 ⟨rfl,hb2⟩;have qG:=QH (qc qU.out hb2);rw[← HR.out];clear hb2;go_wp2_with fail;go_ret;exact⟨rfl,qG.out⟩
 ·have HR:Hid (tkP t=xz 1++(jn t.base++(jn t.target++(xz t.next++(xz t.all++zi t.qp))))):=by unfold Hid tkP;rw[if_neg h0];rfl
  rw[decide_eq_false h0];clear h0;go_wp2_with fail;refine(lq true W1).mono ?_;rintro e _ ⟨rfl,rfl⟩;dsimp only;go_wp2_with fail;refine(qjn L 1 _ (by omega) (by omega) (by have:=HS.out;omega)).mono ?_;rintro e W2 ⟨rfl,hb2⟩;have qG:=QH (qc qU.out hb2);have ha:=cB.out.below hb2;have uT:=QH ha;have HI2:=QH (HI1.out.below hb2);obtain⟨L1,hL1⟩:=QE (L++xz 1);have HL1:=QH hL1;have oY:Hid (L1.length≤50009):=by
   unfold Hid;rw[← hL1,List.length_append];have:=HS.out;have:=qy (1:Int).toNat;unfold xz;omega
  rw[hL1];have a0:=ha.cell 0;have a1:=ha.cell 1;have a2:=ha.cell 2;have a3:=ha.cell 3;have dI:=ha.lt;simp only[wD,QA,QB,QC]at a0 a1 a2 a3;clear hb2 ha hL1;go_wp2_with fail;refine(qvb L1 t.base t.target _ HT.out.base HT.out.target (by have:=oY.out;omega)).mono ?_;rintro e W3 ⟨rfl,hb3⟩;have zG:=QH (qc qG.out hb3);have ha:=uT.out.below hb3;have fx:=QH ha;have HI3:=QH (HI2.out.below hb3);obtain⟨L2,hL2⟩:=QE (L1++(jn t.base++jn t.target));have rQ:=QH hL2;have kY:Hid (L2.length≤50100):=by
   unfold Hid;rw[← hL2];have:=oY.out;have:=qy t.base.1;have:=qy t.base.2;have:=qy t.target.1;have:=qy t.target.2;unfold jn;simp only[List.length_append];omega
  rw[hL2];have a4:=ha.cell 4;have a5:=ha.cell 5;have dI:=ha.lt;simp only[wD,QA,QB,QC]at a4 a5;clear hb3 ha hL2 a0 a1 a2 a3;go_wp2_with fail;refine(q0b L2 t.next t.all _ HT.out.next.1 HT.out.next.2 HT.out.all.1 HT.out.all.2 (by have:=kY.out;omega)).mono ?_;rintro e W4 ⟨rfl,hb4⟩;have zY:=QH (qc zG.out hb4);have ha:=fx.out.below hb4;have HI4:=QH (HI3.out.below hb4);obtain⟨L3,hL3⟩:=QE (L2++(xz t.next++xz t.all));have HL3:=QH hL3;have HS3:Hid (L3.length≤50200):=by
   unfold Hid;rw[← hL3];have:=kY.out;have:=qy t.next.toNat;have:=qy t.all.toNat;unfold xz;simp only[List.length_append];omega
  rw[hL3];have a6:=ha.cell 6;have dI:=ha.lt;simp only[wD,QA,QB,QC]at a6;clear hb4 ha hL3 a4 a5;go_wp2_with fail;refine(kh L3 A c t.qp W4 HI4.out.ints HT.out.qp (by have:=HS3.out;omega) (by have:=HT.out.few;omega)).mono ?_;rintro e W5 ⟨rfl,hb5⟩;have jU:=QH (qc zY.out hb5);have HE:Hid (L3++zi t.qp=L++tkP t):=by
   unfold Hid;rw[HR.out,← HL3.out,← rQ.out,← HL1.out];simp only[List.append_assoc]
  rw[HE.out];clear hb5 a6 dI;go_wp2_with fail;go_ret;exact⟨rfl,jU.out⟩
end Go.Proofs.YtdpbdkacngaemaaGreatDoor.mt.pg
namespace Go.Proofs.YtdpbdkacngaemaaGreatDoor.wi
open _root_.Go.Proofs.Tryz Go.RowKit
end Go.Proofs.YtdpbdkacngaemaaGreatDoor.wi
namespace Go.Proofs.YtdpbdkacngaemaaGreatDoor.mt
open _root_.Go.Proofs.Tryz Go Go.RowKit ib wi
theorem qjo(z:Int):(xz z).length≤9:=by
 unfold xz zk;have:=jh z.toNat;simp only[List.length_cons];omega
theorem jc:∀l:List Int,(zi l).length≤9*l.length
 | []=>by simp[zi]
 | z::l=>by
  have h1:=qjo z;have h2:=jc l;simp only[zi,List.flatMap_cons,List.length_append,List.length_cons]at h2 ⊢;omega
end Go.Proofs.YtdpbdkacngaemaaGreatDoor.mt
namespace Go.Proofs.YtdpbdkacngaemaaGreatDoor.mt
open _root_.Go.Proofs.Tryz Go Go.RowKit ib wi im
theorem qy (n:Nat):(zk n).length≤9:=by
 unfold zk;have:=jh n;simp only[List.length_cons];omega
theorem qjp(g:Gd):(jn g).length≤18:=by
 unfold jn;have:=qy g.1;have:=qy g.2;rw[List.length_append];omega
end Go.Proofs.YtdpbdkacngaemaaGreatDoor.mt
namespace Go.Proofs.YtdpbdkacngaemaaGreatDoor.mt
open _root_.Go.Proofs.Tryz Go Go.RowKit ib wi
end Go.Proofs.YtdpbdkacngaemaaGreatDoor.mt
namespace Go.Proofs.YtdpbdkacngaemaaGreatDoor
open _root_.Go.Proofs.Tryz Go Go.RowKit
section
variable {P:Program} {ops:Array Oper} {Q:Exit→Act→World→Prop} {a0:Act} {m:Nat} {ds:List Tmp} {I:(Nat→Bool)→(Nat→Value)→World→Prop}
end
end Go.Proofs.YtdpbdkacngaemaaGreatDoor
namespace Go.Proofs.YtdpbdkacngaemaaGreatDoor.mt
open _root_.Go.Proofs.Tryz Go Go.RowKit ib wi im
theorem qnb(x:Sp)(h:x.qp.length≤8):(spB x).length≤99:=by
 unfold spB;have h1:=qjp x.g;have h2:=qy (if x.hid then 1 else 0);have h3:=jc x.qp;simp only[List.length_append];omega
theorem bq:∀(l:List Sp),(∀x∈l,x.qp.length≤8)→(yP l).length≤99*l.length
 | [],_=>by simp[yP]
 | x::l,h=>by
  have h1:=qnb x (h x (by simp));have h2:=bq l (fun y hy=>h y (by simp[hy]));simp only[yP,List.flatMap_cons,List.length_append,List.length_cons]at h2 ⊢;omega
theorem qfX(l:List Sp)(k:Nat)(h:k<l.length):yP (l.take (k+1))=yP (l.take k)++spB l[k]:=by
 unfold yP;rw[List.take_succ_eq_append_getElem h,List.flatMap_append];simp
theorem qnc(b:Bool):zk (if b then 1 else 0)=xz (if b then 1 else 0):=by cases b <;> rfl
end Go.Proofs.YtdpbdkacngaemaaGreatDoor.mt
namespace Go.Proofs.YtdpbdkacngaemaaGreatDoor.mt.pg
open _root_.Go.Proofs.Tryz Go Go.RowKit ib wi im mt
structure qqW(m:Mt):Prop where
 live:∀z∈m.live,0≤z
 few:m.live.length≤8
 qd:∀s∈m.qd,zV s.g∧s.qp.length≤8∧∀z∈s.qp,0≤z
 qvd:m.qd.length≤20
 tok:TkF m.tok
theorem qnd{m:Mt}(hB:mB m)(h:xf m m.live.length 1024=0):qqW m∧tkP m.tok=tkB m.tok:=by
 obtain⟨h1,h2,h3,h4⟩:=wK hB h;have ht:=h1.tok;unfold aP at ht;refine⟨⟨fun z hz=>(h1.live z hz).1,h3,fun s hs=>⟨(h1.qd s hs).1,by rw[(h1.qd s hs).2.1];exact h3,fun z hz=>((h1.qd s hs).2.2 z hz).1⟩,h4,?_⟩,?_⟩
 ·by_cases h0:m.tok.target=(0,0)
  ·rw[if_pos h0]at ht;rw[ht];exact⟨aQ,aQ,by unfold yg;simp,by unfold yg;simp,fun z hz=>absurd hz (by simp[yg]),by simp[yg]⟩
  ·rw[if_neg h0]at ht;obtain⟨a1,a2,a3,a4,a5,a6⟩:=ht;exact⟨a1,a2,by omega,by omega,fun z hz=>(a6 z hz).1,by omega⟩
 ·unfold tkP tkB;by_cases h0:m.tok.target=(0,0)
  ·rw[if_pos h0]at ht;rw[if_pos h0,if_pos ht]
  ·rw[if_neg h0,if_neg];intro e;exact h0 (by rw[e];rfl)
def qve (L:List UInt8)(xs:List Sp)(w:World)(v x i:Value)(wr:World):Prop :=
 ∃k:Nat,k≤xs.length∧i=.int .i64 (k:Int)∧v=.string (str (L++yP (xs.take k)))∧Below w.heap.size w wr
theorem ug (A0 A1 A2:Option Addr)(d0 d1 d2:Nat)(m:Mt)(w:World)(hm:MtL w A0 A1 A2 d0 d1 d2 m)(hf:qqW m):Calls prog 174 #[.agg (zw A0 A1 A2 d0 d1 d2 m)] w (qmX (zk m.live.length++(zi m.live++(zk m.qd.length++(yP m.qd++tkP m.tok)))) w):=by
 have HF:=QH hf;have hb:=(Below.refl w.heap.size w).alloc (Nat.le_refl _) (.cells (zw A0 A1 A2 d0 d1 d2 m) 103);have ha:=qh.new w 103 (zw A0 A1 A2 d0 d1 d2 m);obtain⟨W,hW⟩:=QE (w.alloc (.cells (zw A0 A1 A2 d0 d1 d2 m) 103));rw[hW]at hb ha;have HM:=QH (hm.below hb);have HB:=QH hb;have HA:=QH ha;have a0:=ha.cell 0;have dI:=ha.lt;simp only[zw,QA,QB,QC]at a0;clear hb ha hm hf;have HNL:Hid (m.live.length≤8):=HF.out.few;have HNS:Hid (m.qd.length≤20):=HF.out.qvd;unfold zw at hW ⊢;go_enter func174,ntmps174;go_upto_region 1 with fail;try rw[hW]
 clear hW;go_wp2_with fail;have l0:=qjn [] (m.live.length:Int) W (by omega) (by have:=HNL.out;omega) (by simp);refine l0.mono ?_;clear l0;rintro e W1 ⟨rfl,hb1⟩;have qU:=QH (qc HB.out hb1);have ha:=HA.out.below hb1;have cB:=QH ha;have HM1:=QH (HM.out.below hb1);obtain⟨L1,hL1⟩:=QE ([]++xz (m.live.length:Int));have HL1:Hid (L1=zk m.live.length):=by unfold Hid;rw[← hL1];simp[xz]
 rw[hL1];have a0:=ha.cell 0;have dI:=ha.lt;simp only[zw,QA,QB,QC]at a0;clear hb1 ha hL1 HM HA HB;go_wp2_with fail;refine(kh L1 A0 d0 m.live W1 HM1.out.live.ints HF.out.live (by rw[HL1.out];have:=qy m.live.length;omega) (by have:=HNL.out;omega)).mono ?_;rintro e W2 ⟨rfl,hb2⟩;have qG:=QH (qc qU.out hb2);have ha:=cB.out.below hb2;have uT:=QH ha;have HM2:=QH (HM1.out.below hb2);obtain⟨L2,hL2⟩:=QE (L1++zi m.live);have rQ:Hid (L2=zk m.live.length++zi m.live):=by unfold Hid;rw[← hL2,HL1.out]
 have kY:Hid (L2.length≤81):=by
  unfold Hid;rw[rQ.out,List.length_append];have:=qy m.live.length;have:=jc m.live;have:=HNL.out;omega
 rw[hL2];have a1:=ha.cell 1;have dI:=ha.lt;simp only[zw,QA,QB,QC]at a1;clear hb2 ha hL2 HM1 cB qU a0;go_wp2_with fail;refine(qjn L2 (m.qd.length:Int) W2 (by omega) (by have:=HNS.out;omega) (by have:=kY.out;omega)).mono ?_;rintro e W3 ⟨rfl,hb3⟩;have zG:=QH (qc qG.out hb3);have ha:=uT.out.below hb3;have fx:=QH ha;have HM3:=QH (HM2.out.below hb3);obtain⟨L3,hL3⟩:=QE (L2++xz (m.qd.length:Int));have HL3:Hid (L3=zk m.live.length++(zi m.live++zk m.qd.length)):=by unfold Hid;rw[← hL3,rQ.out];simp[xz]
 have HS3:Hid (L3.length≤90):=by
  unfold Hid;rw[← hL3,List.length_append];have:=qy (m.qd.length:Int).toNat;have:=kY.out;unfold xz;omega
 rw[hL3];have a1:=ha.cell 1;have dI:=ha.lt;simp only[zw,QA,QB,QC]at a1;clear hb3 ha hL3 HM2 uT qG;have HSL:Hid ((yP m.qd).length≤1980):=by
  unfold Hid;have:=bq m.qd (fun x hx=>(HF.out.qd x hx).2.1);have:=HNS.out;omega
 have HSK:Hid (∀k,k≤m.qd.length→(yP (m.qd.take k)).length≤1980):=fun k hk=>by
  have:=bq (m.qd.take k) (fun x hx=>(HF.out.qd x (List.mem_of_mem_take hx)).2.1);have:=HNS.out;have h3:(m.qd.take k).length≤20:=by simp only[List.length_take];omega
  omega
 obtain⟨len,hlen⟩:=QE m.qd.length;have HLEN:=QH hlen;rw[hlen]at a1 HNS HSK;clear hlen;go_wp2_with fail;clear a1;go_loopw [3,5,24] (fun v x i wr=>qve L3 m.qd W3 v x i wr) (fun _ _ i _=>len-(intOf i).toNat);case atStart=>exact⟨0,Nat.zero_le _,rfl,by simp[yP],Below.refl _ _⟩
 case round =>
  obtain⟨k,hk,rfl,rfl,iy⟩:=hrel;have yX:=QH iy;have tS:=QH (fx.out.below iy);have HMW:=QH (HM3.out.below iy);rw[HLEN.out]at hk;clear iy;obtain⟨P,hP⟩:=QE (L3++yP (m.qd.take k));have HP:=QH hP;have nK:Hid (P.length≤2100):=by
   unfold Hid;rw[← hP,List.length_append];have:=HS3.out;have:=HSK.out k hk;omega
  rw[hP];clear hP;by_cases hlt:k<len
  ·have ja:(k:Int)<(len:Int):=by omega
   have q9t:k≤20:=by have:=HNS.out;omega
   have hkm:k<m.qd.length:=by rw[HLEN.out];exact hlt
   obtain⟨bb,bo,B,cb,hA1,hlb,e0,e1,e2,e3,dG,hgd⟩:=HMW.out.qd k hkm;have hsf:=HF.out.qd _ (List.getElem_mem hkm);have uh:=QH (qfX m.qd k hkm);obtain⟨x,hx⟩:=QE (m.qd[k]);rw[hx]at e0 e1 e2 e3 dG hgd hsf uh;have HSF:=QH hsf;subst hA1;have HSI:=QH dG;clear dG hgd hx hsf;obtain⟨W4,tP⟩:=QE (wr.alloc (.cells (snC x B cb) 141));have hb4:Below wr.heap.size wr W4:=by rw[← tP];exact(Below.refl _ wr).alloc (Nat.le_refl _) _
   have hS:qh W4 wr.heap.size 141 (snC x B cb):=by rw[← tP];exact qh.new _ _ _
   have zY:=QH (qc yX.out hb4);have HI4:=QH (HSI.out.below hb4);have nZ:=QH hS;have x0:=hS.cell 0;have x1:=hS.cell 1;have hlx:=hS.lt;simp only[snC,QA,QB,QC]at x0 x1;unfold snC at tP;clear hS hb4 HSI;go_upto_region 7 with fail;try rw[tP]
   clear tP e0 e1 e2 e3;obtain⟨gs,tQ⟩:=QE wr.heap.size;rw[tQ]at x0 x1 hlx nZ;try rw[tQ]
   clear tQ;go_wp2_with fail;refine(q0c P x.g W4 HSF.out.1 (by have:=nK.out;omega)).mono ?_;rintro e W5 ⟨rfl,hb5⟩;have jU:=QH (qc zY.out hb5);have HI5:=QH (HI4.out.below hb5);have hS:=nZ.out.below hb5;have iz:=QH hS;obtain⟨P1,hP1⟩:=QE (P++jn x.g);have rU:=QH hP1;have qvg:Hid (P1.length≤2200):=by
    unfold Hid;rw[← hP1,List.length_append];have:=nK.out;have:=qy x.g.1;have:=qy x.g.2;unfold jn;simp only[List.length_append];omega
   rw[hP1];have x3:=hS.cell 3;have hlx:=hS.lt;simp only[snC,QA,QB,QC]at x3;clear hb5 hS hP1 x0 x1 nZ HI4;go_wp2_with fail;refine(lq x.hid W5).mono ?_;rintro e _ ⟨rfl,rfl⟩;obtain⟨fl,wA⟩:=QE ((if x.hid=true then 1 else 0):Int);rw[wA];have tT:=QH wA;have hfb:0≤fl∧fl≤1:=by rw[← wA];split <;> omega
   have HFB:=QH hfb;clear wA hfb;go_wp2_with fail;refine(qjn P1 fl _ HFB.out.1 (by have:=HFB.out.2;omega) (by have:=qvg.out;omega)).mono ?_;rintro e W6 ⟨rfl,wG⟩;have dJ:=QH (qc jU.out wG);have HI6:=QH (HI5.out.below wG);have hS:=iz.out.below wG;obtain⟨P2,hP2⟩:=QE (P1++xz fl);have tU:=QH hP2;have q0f:Hid (P2.length≤2300):=by
    unfold Hid;rw[← hP2,List.length_append];have:=qvg.out;have:=qy fl.toNat;unfold xz;omega
   rw[hP2];have x2:=hS.cell 2;have hlx:=hS.lt;simp only[snC,QA,QB,QC]at x2;clear wG hS hP2 x3 iz HI5;go_wp2_with fail;refine(kh P2 B cb x.qp W6 HI6.out.ints HSF.out.2.2 (by have:=q0f.out;omega) (by have:=HSF.out.2.1;omega)).mono ?_;rintro e W7 ⟨rfl,hb7⟩;have HB7:=QH (qc dJ.out hb7);have HE:Hid (P2++zi x.qp=L3++yP (m.qd.take (k+1))):=by
    unfold Hid;rw[uh.out,← tU.out,← rU.out,← HP.out,← tT.out];unfold spB;rw[qnc];simp only[List.append_assoc]
   rw[HE.out];clear hb7 x2 hlx;go_wp2_with fail;go_roundw;case rel=>exact⟨k+1,by rw[HLEN.out];omega,by go_num,rfl,HB7.out⟩
   case measure=>simp[intOf];omega
  ·have ja:¬ (k:Int)<(len:Int):=by omega
   obtain rfl:k=len:=by omega
   have HE:Hid (P=L3++yP m.qd):=by
    unfold Hid;rw[← HP.out,List.take_of_length_le (by have:=HLEN.out;omega)]
   have ha:=tS.out;have a2:=ha.cell 2;have a3:=ha.cell 3;have a4:=ha.cell 4;have a5:=ha.cell 5;have a6:=ha.cell 6;have a7:=ha.cell 7;have a8:=ha.cell 8;have dI:=ha.lt;simp only[zw,QA,QB,QC]at a2 a3 a4 a5 a6 a7 a8;have HT:=QH (rT P m.tok A2 d2 wr HMW.out.qp HF.out.tok (by have:=nK.out;omega));unfold wD at HT;clear ha HP;go_wp2_with fail;refine HT.out.mono ?_;rintro e W4 ⟨rfl,hb4⟩;have zY:=QH (qc (qc zG.out yX.out) hb4);have HE2:Hid (P++tkP m.tok=zk m.live.length++(zi m.live++(zk m.qd.length++(yP m.qd++tkP m.tok)))):=by
    unfold Hid;rw[HE.out,HL3.out];simp only[List.append_assoc]
   rw[HE2.out];clear hb4 a2 a3 a4 a5 a6 a7 a8 HT;go_wp2_with fail;go_ret;exact⟨rfl,zY.out⟩
theorem qe9(v:Value)(m:Mt)(w:World)(h:nR w v m)(hs:mtS m):Calls prog 100 #[v] w (qqv (wx m) w):=by
 have hmB:=h.mB;obtain⟨A0,A1,A2,d0,d1,d2,rfl,hm⟩:=h;have HMB:=QH hmB;have po:=QH hs;have hb:=(Below.refl w.heap.size w).alloc (Nat.le_refl _) (.cells (zw A0 A1 A2 d0 d1 d2 m) 103);have ha:=qh.new w 103 (zw A0 A1 A2 d0 d1 d2 m);obtain⟨W,hW⟩:=QE (w.alloc (.cells (zw A0 A1 A2 d0 d1 d2 m) 103));rw[hW]at hb ha;have HM:=QH (hm.below hb);have HB:=QH hb;have HA:=QH ha;have a0:=ha.cell 0;have a1:=ha.cell 1;have a2:=ha.cell 2;have a3:=ha.cell 3;have a4:=ha.cell 4;have a5:=ha.cell 5;have a6:=ha.cell 6;have a7:=ha.cell 7;have a8:=ha.cell 8;have dI:=ha.lt;simp only[zw,QA,QB,QC]at a0 a1 a2 a3 a4 a5 a6 a7 a8;have HC:=QH (dv (.agg (zw A0 A1 A2 d0 d1 d2 m)) m (m.live.length:Int) 1024 W ⟨_,_,_,_,_,_,rfl,HM.out⟩ hs (by unfold qA;have:=hs.live;omega) (by unfold qA;omega));clear hb ha hm hs hmB;have qne:Hid (wx m=if xf m m.live.length 1024≠0 then([],xf m m.live.length 1024)else if 48<nsec (zq m).length then([],3)else(zq m,0)):=rfl;have HPF:Hid (xf m m.live.length 1024=0→qqW m∧tkP m.tok=tkB m.tok):=fun hq=>qnd HMB.out hq;obtain⟨er,her⟩:=QE (xf m m.live.length 1024);rw[her]at HC qne HPF;unfold zw at hW HC ⊢;clear her;go_enter func100,ntmps100;go_upto_region 1 with fail;try rw[hW]
 clear hW;go_wp2_with fail;refine HC.out.mono ?_;rintro e W1 ⟨rfl,hb1⟩;have qU:=QH (qc HB.out hb1);have HM1:=QH (HM.out.below hb1);have ha:=HA.out.below hb1;clear hb1 HC a0 a1 a2 a3 a4 a5 a6 a7 a8 dI;by_cases he:er=0
 ·subst he;obtain⟨hpf,pq⟩:=HPF.out rfl;have HPU:=QH (ug A0 A1 A2 d0 d1 d2 m W1 HM1.out hpf);have qvh:Hid (zk m.live.length++(zi m.live++(zk m.qd.length++(yP m.qd++tkP m.tok)))=zq m):=by unfold Hid;rw[pq];rfl
  rw[qvh.out]at HPU;have HLB:Hid ((zq m).length≤100000):=by
   unfold Hid;rw[← qvh.out];have t1:=bq m.qd (fun x hx=>(hpf.qd x hx).2.1);have t2:=hpf.qvd;have t3:=hpf.few;have t4:=qy m.live.length;have t5:=jc m.live;have t6:=qy m.qd.length;have t7:(tkP m.tok).length≤1000:=by
    unfold tkP;split
    ·have:=qy 0;omega
    ·have:=qy 1;have:=qy m.tok.base.1;have:=qy m.tok.base.2;have:=qy m.tok.target.1;have:=qy m.tok.target.2;have:=qy m.tok.next.toNat;have:=qy m.tok.all.toNat;have:=jc m.tok.qp;have:=hpf.tok.few;unfold jn xz;simp only[List.length_append];omega
   simp only[List.length_append];omega
  obtain⟨L,hL⟩:=QE (zq m);rw[hL]at HPU HLB qne;have HFI:Hid (wx m=qfS L):=by unfold Hid;rw[qne.out,if_neg (by simp)];rfl
  have a0:=ha.cell 0;have a1:=ha.cell 1;have a2:=ha.cell 2;have a3:=ha.cell 3;have a4:=ha.cell 4;have a5:=ha.cell 5;have a6:=ha.cell 6;have a7:=ha.cell 7;have a8:=ha.cell 8;have dI:=ha.lt;simp only[zw,QA,QB,QC]at a0 a1 a2 a3 a4 a5 a6 a7 a8;unfold zw at HPU;clear hpf pq hL ha;go_wp2_with fail;refine HPU.out.mono ?_;rintro e W2 ⟨rfl,hb2⟩;have qG:=QH (qc qU.out hb2);clear hb2 a0 a1 a2 a3 a4 a5 a6 a7 a8 dI;go_wp2_with fail;refine(qmY L W2 HLB.out).mono ?_;rintro e _ ⟨rfl,rfl⟩;rw[← HFI.out];go_wp2_with fail;go_ret2;exact⟨rfl,qG.out⟩
 ·have hne:(er != 0)=true:=by simpa using he
  have HR:Hid (wx m=([],er)):=by unfold Hid;rw[qne.out,if_pos he]
  clear he ha;go_wp2_with fail;go_ret2;exact⟨by rw[HR.out];rfl,qU.out⟩
end Go.Proofs.YtdpbdkacngaemaaGreatDoor.mt.pg
namespace Go.Proofs.YtdpbdkacngaemaaGreatDoor.mt.pg
open _root_.Go.Proofs.Tryz Go Go.RowKit Go.Proofs.YtdpbdkacngaemaaGreatDoor.ib Go.Proofs.YtdpbdkacngaemaaGreatDoor.wi Go.Proofs.YtdpbdkacngaemaaGreatDoor.im Go.Proofs.YtdpbdkacngaemaaGreatDoor.mt
theorem jB {fn:Func}{p q:Tmp}{ty:TypeId}(h:fn.results = #[.cell p ty,.tmp q])(tmps:Array Value)(P:Program)(w:World)(a:Addr)(v1 v2:Value)
    (hp:tmps.getD p undef=.pointer (some a)) (hq:tmps.getD q undef=v2) (h1:(loadVar ty a).run P w=.ok v1 w):(results fn tmps).run P w=.ok (.tuple #[v1,v2]) w:=by
 simp only[results,h];simp only[Array.getD_eq_getD_getElem?]at hp hq;simp[Sem.run_bind,Result.andThen,asAddr,hp,hq,h1]
end Go.Proofs.YtdpbdkacngaemaaGreatDoor.mt.pg
namespace Go.Proofs.YtdpbdkacngaemaaGreatDoor.mt
open _root_.Go.Proofs.Tryz Go Go.RowKit Go.Proofs.YtdpbdkacngaemaaGreatDoor.ib
end Go.Proofs.YtdpbdkacngaemaaGreatDoor.mt
namespace Go.Proofs.YtdpbdkacngaemaaGreatDoor.dk
abbrev Bt:=List UInt8
abbrev qE:=List (Option Bt)
def zz:Bt:=List.replicate 32 0
def rep (c:UInt8)(n:Nat):Bt:=List.replicate n c
def dat (c:UInt8):Bt:=if c.toNat≤250 then rep c 32 else rep c (c.toNat%31)
theorem zh:zz.length=32:=by simp[zz]
def look (s:qE)(k:Int):Option Bt:=if 0≤k then(s[k.toNat]?).getD none else none
def put (s:qE)(k:Nat)(v:Bt):qE:=s.set k (some v)
def cnt (s:qE):Nat:=s.countP Option.isSome
theorem lx (s:qE)(k:Nat):look s (k:Int)=(s[k]?).getD none:=by simp[look]
theorem zy (s:qE)(k:Nat)(o:Option Bt)(h:k<s.length):look (s.set k o) (k:Int)=o:=by
 rw[lx,List.getElem?_set_self h];rfl
theorem zO (s:qE)(k:Nat)(j:Int)(o:Option Bt)(h:j≠(k:Int)):look (s.set k o) j=look s j:=by
 unfold look;split
 ·rw[List.getElem?_set_ne (by omega)]
 ·rfl
theorem qeB(s:qE)(k:Nat)(u:Bt)(h:k<s.length)(hx:s[k]=some u):1≤cnt s :=
 List.countP_pos_iff.2 ⟨_,List.getElem_mem h,by rw[hx];rfl⟩
theorem vK (s:qE)(k:Nat)(v:Bt)(h:k<s.length):cnt (s.set k (some v))=if (look s (k:Int)).isSome then cnt s else cnt s+1:=by
 unfold cnt;rw[List.countP_set h,lx,List.getElem?_eq_getElem h];cases hx:s[k]with
 | none=>simp
 | some u =>
  have hle:=qeB s k u h hx;unfold cnt at hle;simp;omega
theorem rV (s:qE)(k:Nat)(h:k<s.length):cnt (s.set k none)+(if (look s (k:Int)).isSome then 1 else 0)=cnt s:=by
 unfold cnt;rw[List.countP_set h,lx,List.getElem?_eq_getElem h];cases hx:s[k]with
 | none=>simp
 | some u =>
  have hle:=qeB s k u h hx;unfold cnt at hle;simp;omega
theorem rW (s:qE):cnt s≤s.length:=List.countP_le_length
structure DD where
 room:Int
 base:qE
 more:List (Nat × Bt)
 on:Bool
 qz:Int
def qQ (s:qE)(l:List (Nat × Bt)):qE:=l.foldl (fun s w=>put s w.1 w.2) s
theorem xa:∀(l:List (Nat × Bt)) (s:qE),(qQ s l).length=s.length
 | [],_=>rfl
 | w::l,s=>by rw[qQ,List.foldl_cons,← qQ,xa l];simp[put]
theorem cZ (s:qE)(w:Nat × Bt)(l:List (Nat × Bt)):qQ s (w::l)=qQ (put s w.1 w.2) l:=rfl
theorem ed (s:qE)(l:List (Nat × Bt))(w:Nat × Bt):qQ s (l++[w])=put (qQ s l) w.1 w.2:=by simp[qQ]
theorem jd (s:qE)(l r:List (Nat × Bt)):qQ s (l++r)=qQ (qQ s l) r:=by simp[qQ]
def DD.n (d:DD):Nat:=d.base.length
def DD.now (d:DD):qE:=qQ d.base d.more
theorem DD.yY(d:DD):d.now.length=d.n:=xa _ _
def DD.used(d:DD):Nat:=cnt d.now
def DD.has (d:DD)(at_:Int):Bool:=decide (0≤at_)&&decide (at_<(d.n:Int))
structure DD.ok(d:DD)(most:Nat):Prop where
 n0:1≤d.n
 n1:d.n≤1024
 qvi:0≤d.room
 qvj:d.room≤9223372036854775807
 qeC:0≤d.qz
 qeD:d.qz≤9223372036854775807
 qaA:d.more.length≤most
 at1:∀w∈d.more,w.1<d.n∧w.2.length=32
 qpi:∀v,some v∈d.base→v.length=32
theorem DD.ok.mono{d:DD}{m m':Nat}(h:d.ok m)(hm:m≤m'):d.ok m':={ h with qaA:=Nat.le_trans h.qaA hm }
theorem mem_set{s:qE}{k:Nat}{o:Option Bt}{v:Bt}(h:some v∈s.set k o):some v∈s∨o=some v:=by
 rcases List.mem_or_eq_of_mem_set h with h|h
 ·exact .inl h
 ·exact .inr h.symm
theorem wT {l:List (Nat × Bt)}:∀ {s:qE},(∀v,some v∈s→v.length=32)→(∀w∈l,w.2.length=32)→∀v,some v∈qQ s l→v.length=32:=by
 induction l with
 | nil=>intro s h _ v hv;exact h v hv
 | cons w l ih =>
  intro s h hl v hv;refine ih (s:=put s w.1 w.2) (fun u hu=>?_) (fun x hx=>hl x (by simp[hx])) v hv;rcases mem_set hu with h' | h'
  ·exact h u h'
  ·injection h' with h';subst h';exact hl w (by simp)
theorem DD.ok.qvk{d:DD}{m:Nat}(h:d.ok m):∀v,some v∈d.now→v.length=32:=wT h.qpi (fun w hw=>(h.at1 w hw).2)
theorem qjs{s:qE}{k:Int}{v:Bt}(h:look s k=some v):some v∈s:=by
 unfold look at h;split at h
 ·cases hx:s[k.toNat]? with
  | none=>rw[hx]at h;simp at h
  | some o=>rw[hx]at h;simp at h;subst h;exact List.mem_of_getElem? hx
 ·cases h
theorem DD.ok.pw{d:DD}{m:Nat}(h:d.ok m){k:Int}{v:Bt}(hv:look d.now k=some v):v.length=32:=h.qvk v (qjs hv)
def ee:qE→List (Nat × Bt)→List (Nat × Bt × Bt × Bool)
 | _,[]=>[]
 | s,(k,v)::r=>(k,v,(look s (k:Int)).getD zz,(look s (k:Int)).isSome)::ee (put s k v) r
theorem px:∀(l:List (Nat × Bt)) (s:qE) (k:Nat) (v:Bt),
    ee s (l++[(k,v)])=ee s l++[(k,v,(look (qQ s l) (k:Int)).getD zz,(look (qQ s l) (k:Int)).isSome)]
 | [],s,k,v=>rfl
 | (j,u)::r,s,k,v=>by
  show _::ee (put s j u) (r++[(k,v)])=_;rw[px r];rfl
def stay (l:List (Nat × Bt))(keep:List Bool):List (Nat × Bt) :=
 match l,keep with
 | w::l,b::keep=>(if b then[w]else[])++stay l keep
 | _,_=>[]
theorem qjt(l:List (Nat × Bt)):stay l []=[]:=by cases l <;> rfl
theorem lz:∀(l:List (Nat × Bt)) (keep:List Bool) (w:Nat × Bt),w∈stay l keep→w∈l
 | [],keep,w,h=>by cases keep <;> simp[stay]at h
 | x::l,[],w,h=>by simp[stay]at h
 | x::l,b::keep,w,h=>by
  simp only[stay,List.mem_append]at h;rcases h with h|h
  ·cases b <;> simp at h;simp[h]
  ·exact List.mem_cons_of_mem _ (lz l keep w h)
def DD.new (qnf:Nat)(room:Int):DD:={ room:=room,base:=List.replicate qnf none,more:=[],on:=true,qz:=0 }
def DD.off (d:DD):DD:={ d with on:=false,qz:=0 }
def DD.qvl (d:DD)(keep:List Bool):DD:=if d.on then d else { d with base:=qQ d.base (stay d.more keep),more:=[],on:=true }
def DD.oper(d:DD):DD:=if d.qz=1 then d.off else if 1<d.qz then { d with qz:=d.qz-1 }else d
def DD.write(d:DD)(at_:Int)(data:Bt):Int × DD :=
 if d.on=false then(6,d)
 else if d.has at_=false∨data.length≠32 then(2,d)
 else if (look d.now at_).isSome=false∧d.room≤(d.used:Int)then(7,d)
 else if d.oper.on=false then(6,d.oper)
 else(0,{ d.oper with more:=d.more++[(at_.toNat,data)] })
def DD.flush(d:DD):Int × DD :=
 if d.on=false then(6,d)
 else if d.oper.on=false then(6,d.oper)
 else(0,{ d.oper with base:=d.now,more:=[] })
def DD.read(d:DD)(at_:Int):Bt × Int :=
 if d.on=false then([],6)
 else if d.has at_=false then([],2)
 else((look d.now at_).getD zz,0)
def fresh (s:qE):List Int→List Int→List Int
 | acc,[]=>acc
 | acc,x::r=>if (look s x).isSome || acc.contains x then fresh s acc r else fresh s (acc++[x]) r
def DD.fits(d:DD)(l:List Int):Bool :=
 l.all d.has&&(decide ((fresh d.now [] l).length=0) || decide (((fresh d.now [] l).length:Int)≤d.room-(d.used:Int)))
end Go.Proofs.YtdpbdkacngaemaaGreatDoor.dk
namespace Go.Proofs.YtdpbdkacngaemaaGreatDoor.dk
open _root_.Go.Proofs.Tryz Go Go.RowKit
abbrev D1:=DataW Unit
def qju:Value→D1
 | .int k a=>.lit (.int k a)
 | _=>.nil
def py:Value→Option (D1 × List MemPlace)
 | .agg cs=>some (.agg (cs.toList.map qju),[])
 | _=>none
def bt (v:Bt):Value:=.agg (Lib.byteCells v).toArray
def qcQ (v:Bt):D1:=.agg ((Lib.byteCells v).map qju)
theorem lA (v:Bt):py (bt v)=some (qcQ v,[]):=by simp[py,bt,qcQ]
theorem qaB:∀(l:List Value) (v:Bt),l.map qju=(Lib.byteCells v).map qju→l=Lib.byteCells v
 | [],[],_=>rfl
 | x::l,[],h=>by simp[Lib.byteCells]at h
 | [],b::v,h=>by simp[Lib.byteCells]at h
 | x::l,b::v,h=>by
  simp only[Lib.byteCells,List.map_cons,List.cons.injEq]at h ⊢;refine⟨?_,qaB l v h.2⟩;have h1:=h.1;cases x <;> simp[qju]at h1;rw[h1.1,h1.2]
theorem pz {x:Value}{v:Bt}{ps:List MemPlace}(h:py x=some (qcQ v,ps)):x=bt v:=by
 cases x <;> simp[py,qcQ]at h;rename_i cs;have:=qaB cs.toList v (by simpa using h.1);rw[bt,← this]
theorem qng:bt zz=.agg #[Value.int IntKind.u8 0,Value.int IntKind.u8 0,Value.int IntKind.u8 0,Value.int IntKind.u8 0,Value.int IntKind.u8 0,Value.int IntKind.u8 0,Value.int IntKind.u8 0,Value.int IntKind.u8 0,Value.int IntKind.u8 0,Value.int IntKind.u8 0,Value.int IntKind.u8 0,Value.int IntKind.u8 0,Value.int IntKind.u8 0,Value.int IntKind.u8 0,Value.int IntKind.u8 0,Value.int IntKind.u8 0,Value.int IntKind.u8 0,Value.int IntKind.u8 0,Value.int IntKind.u8 0,Value.int IntKind.u8 0,Value.int IntKind.u8 0,Value.int IntKind.u8 0,Value.int IntKind.u8 0,Value.int IntKind.u8 0,Value.int IntKind.u8 0,Value.int IntKind.u8 0,Value.int IntKind.u8 0,Value.int IntKind.u8 0,Value.int IntKind.u8 0,Value.int IntKind.u8 0,Value.int IntKind.u8 0,Value.int IntKind.u8 0]:=rfl
def xc (w:World)(m:Nat)(s:qE):Prop :=
 ∃D:D1,w.ownsMap prog 3 py m (Maps.size D) D∧(∀k:Int,Maps.has D (.int .i64 k)=(look s k).isSome) ∧
  (∀(k:Int) v,look s k=some v→∀z,D.atKey (.int .i64 k) z=qcQ v)∧Maps.size D=cnt s
theorem eo {w:World}{b n:Nat}{D:D1}{P:Program}{k:TypeId}{R:Value→Option (D1 × List MemPlace)}(h:w.ownsMap P k R b n D):w.ownsMap P k R b (Maps.size D) D:=by
 obtain⟨es,clock,hb,F,_,rfl⟩:=h;exact⟨es,clock,hb,F,by simp[Maps.size,length_sorted],rfl⟩
theorem xc.lt{w:World}{m:Nat}{s:qE}(h:xc w m s):m<w.heap.size:=by
 obtain⟨D,h1,_⟩:=h;exact h1.lt
theorem xc.of_block{w w':World}{m:Nat}{s:qE}(h:xc w m s)(hb:w'.heap[m]?=w.heap[m]?):xc w' m s:=by
 obtain⟨D,⟨es,clock,h1,h2⟩,h3⟩:=h;exact⟨D,⟨es,clock,hb.trans h1,h2⟩,h3⟩
theorem xc.made(w:World)(n:Nat):xc (w.alloc (.map #[] 0)) w.heap.size (List.replicate n none):=by
 have hl:∀k:Int,look (List.replicate n none) k=none:=by
  intro k;unfold look;split
  ·simp only[List.getElem?_replicate];split <;> rfl
  ·rfl
 refine⟨.map [],World.ownsMap_made w prog 3 py,fun k=>by rw[hl];rfl,fun k v h=>(by rw[hl]at h;cases h),?_⟩;simp[Maps.size,cnt,List.countP_replicate]
theorem qcR(k:Int):WideAt.IsKeyLit (Lit.int .i64 k):=trivial
abbrev keyed:Go.Maps.Keyed prog 3:=Go.Maps.int_keyed underlying3
theorem qnh(k:Int)(h0 : -9223372036854775808≤k)(h1:k≤9223372036854775807):(Lit.int .i64 k).wf=true:=WalkArith.wf_i64 (by omega)
theorem xc.find{w:World}{m:Nat}{s:qE}(h:xc w m s)(k:Int)(h0 : -9223372036854775808≤k)(h1:k≤9223372036854775807) :
    (Instr.lookup 85 (.map (some m)) (.int .i64 k) true).run prog w=.ok (.tuple #[bt ((look s k).getD zz),.bool (look s k).isSome]) w ∧
    (Instr.lookup 85 (.map (some m)) (.int .i64 k) false).run prog w=.ok (bt ((look s k).getD zz)) w:=by
 obtain⟨D,hown,hh,ha,_⟩:=h;have hkey:=Go.Maps.keyOf_int_mk (P:=prog) (k:=3) underlying3 (qnh k h0 h1);have hz:(zeroValue 146).run prog w=.ok (bt zz) w:=by rw[qng];exact zeroValue146 w
 have hat:D.atKey (.int .i64 k) (qcQ zz)=qcQ ((look s k).getD zz):=by
  cases hx:look s k with
  | none=>exact Maps.atKey_of_not_has (by rw[hh,hx];rfl) _
  | some v=>exact ha k v hx _
 obtain⟨v,ps,hrun,hv⟩:=hown.look_ok keyed underlying85 hz (lA zz) hkey;obtain⟨v2,ps2,fD,hv2⟩:=hown.lookup keyed underlying85 hz (lA zz) hkey;rw[hat]at hv hv2;rw[pz hv,hh]at hrun;rw[pz hv2]at fD;exact⟨hrun,fD⟩
theorem xc.len{w:World}{m:Nat}{s:qE}(h:xc w m s)(ty:TypeId):(Builtin.len_ #[85] ty #[.map (some m)]).run prog w=.ok (.int .i64 (cnt s:Int)) w:=by
 obtain⟨D,hown,_,_,hc⟩:=h;rw[← hc];exact hown.len underlying85 ty
theorem lB {a b:Int}(h:a≠b):(Lit.int .i64 a)≠Lit.int .i64 b:=fun e=>h (by injection e)
theorem xc.store{w:World}{m:Nat}{s:qE}(h:xc w m s)(k:Nat)(v:Bt)(hk:k<s.length)(h1:s.length≤1024) :
    ∃w',(Instr.mapUpdate 85 (.map (some m)) (.int .i64 (k:Int)) (bt v)).run prog w=.ok () w'∧xc w' m (put s k v)∧w.mapTurned w' m:=by
 obtain⟨D,hown,hh,ha,hc⟩:=h;have hkey:=Go.Maps.keyOf_int_mk (P:=prog) (k:=3) underlying3 (qnh (k:Int) (by omega) (by omega));have hti:=hown.tidy keyed;have hcl:=rW s;obtain⟨w',hrun,r1,r2⟩:=hown.store keyed underlying85 (by unfold maxLen;omega) hkey (lA v);refine⟨w',hrun,⟨_,eo r1,?_,?_,?_⟩,r2⟩
 ·intro j;by_cases e:j=(k:Int)
  ·subst e;rw[Maps.has_put_same hti.isMap (qcR _),put,zy _ _ _ hk];rfl
  ·rw[Maps.has_put_other (lB e),put,zO _ _ _ _ e,hh]
 ·intro j u hu z;by_cases e:j=(k:Int)
  ·subst e;rw[put,zy _ _ _ hk]at hu;injection hu with hu
   subst hu;exact Maps.atKey_put_same hti.isMap (qcR _) _ _
  ·rw[put,zO _ _ _ _ e]at hu;rw[Maps.atKey_put_other (lB e)];exact ha j u hu z
 ·rw[Maps.size_put hti,put,vK _ _ _ hk,hh,hc]
theorem xc.drop{w:World}{m:Nat}{s:qE}(h:xc w m s)(k:Nat)(hk:k<s.length)(h1:s.length≤1024)(ty:TypeId) :
    ∃w',(Builtin.delete_ #[85,3] ty #[.map (some m),.int .i64 (k:Int)]).run prog w=.ok (.tuple #[]) w'∧xc w' m (s.set k none)∧w.mapTurned w' m:=by
 obtain⟨D,hown,hh,ha,hc⟩:=h;have hkey:=Go.Maps.keyOf_int_mk (P:=prog) (k:=3) underlying3 (qnh (k:Int) (by omega) (by omega));have hti:=hown.tidy keyed;obtain⟨w',hrun,r1,r2⟩:=hown.drop keyed underlying85 hkey ty;refine⟨w',hrun,⟨_,eo r1,?_,?_,?_⟩,r2⟩
 ·intro j;by_cases e:j=(k:Int)
  ·subst e;rw[Maps.has_del_same,zy _ _ _ hk];rfl
  ·rw[Maps.has_del_other (lB e),zO _ _ _ _ e,hh]
 ·intro j u hu z;by_cases e:j=(k:Int)
  ·subst e;rw[zy _ _ _ hk]at hu;cases hu
  ·rw[zO _ _ _ _ e]at hu;rw[Maps.atKey_del_other (lB e)];exact ha j u hu z
 ·have g1:=Maps.size_del (k:=.int .i64 (k:Int)) hti;have g2:=rV s k hk;rw[hh]at g1;omega
def qh (w:World)(g:Nat)(t:TypeId)(cs:Array Value):Prop:=w.heap[g]?=some (.cells cs t (0,0))
section
variable {w w':World} {g:Nat} {t:TypeId} {cs:Array Value}
theorem qh.lt(h:qh w g t cs):g<w.heap.size:=by
 unfold qh at h;exact(Array.getElem?_eq_some_iff.1 h).1
theorem qh.cell(h:qh w g t cs)(i:Nat):w.cell? ⟨g,i,none⟩=cs[i]? :=cell_of_row w g i cs t (0,0) h
theorem qh.frozen(h:qh w g t cs)(i:Nat):w.frozen? ⟨g,i,none⟩=false:=by
 unfold qh at h;simp[World.frozen?,h]
theorem qh.new(w:World)(t:TypeId)(cs:Array Value):qh (w.alloc (.cells cs t)) w.heap.size t cs:=heap_alloc_new w _
theorem qh.of_block(h:qh w g t cs)(hb:w'.heap[g]?=w.heap[g]?):qh w' g t cs:=hb.trans h
theorem qh.qu(h:qh w g t cs)(i:Nat)(u:Value):qh (w.setCell ⟨g,i,none⟩ u) g t (cs.setIfInBounds i u):=heap_setCell_same w g i cs t u h
end
structure qB(S:Nat→Prop)(w w':World):Prop where
 os:w'.os=w.os
 tape:w'.tape=w.tape
 output:w'.output=w.output
 size:w.heap.size≤w'.heap.size
 block:∀k,k<w.heap.size→¬ S k→w'.heap[k]?=w.heap[k]?
section
variable {S S':Nat→Prop} {a b c w w':World}
theorem qB.refl(S:Nat→Prop)(w:World):qB S w w:=⟨rfl,rfl,rfl,Nat.le_refl _,fun _ _ _=>rfl⟩
theorem qB.trans(h:qB S a b)(k:qB S' b c)(hs:∀i,S' i→S i∨a.heap.size≤i):qB S a c :=
 ⟨k.os.trans h.os,k.tape.trans h.tape,k.output.trans h.output,Nat.le_trans h.size k.size,fun i hi hn=>by
  refine(k.block i (Nat.lt_of_lt_of_le hi h.size) (fun e=>?_)).trans (h.block i hi hn);rcases hs i e with h1|h1
  ·exact hn h1
  ·omega⟩
theorem qB.mono(h:qB S w w')(hs:∀i,S i→S' i):qB S' w w':=⟨h.os,h.tape,h.output,h.size,fun k hk hn=>h.block k hk (fun e=>hn (hs k e))⟩
theorem qB.of_below(h:Below w.heap.size w w'):qB S w w':=⟨h.os,h.tape,h.output,h.size,fun k hk _=>h.block k hk⟩
theorem qB.qaC{row:Option Nat}(h:w.grownBy w' row)(hs:∀k,row=some k→S k):qB S w w' :=
 ⟨h.os,h.tape,h.output,h.size,fun k hk hn=>h.block k hk (fun e=>hn (hs k e.symm))⟩
theorem qB.drew(h:qB S a w):qB S a w.drew:=⟨h.os,h.tape,h.output,h.size,h.block⟩
theorem qB.drewN(h:qB S a w)(n:Nat):qB S a (w.drewN n):=⟨h.os,h.tape,h.output,h.size,h.block⟩
theorem qB.alloc(h:qB S a w)(o:Obj):qB S a (w.alloc o) :=
 h.trans (S':=fun _=>False) ⟨rfl,rfl,rfl,by simp,fun k hk _=>Below.heap_alloc _ _ _ hk⟩ (fun _ e=>e.elim)
theorem qB.setCell(h:qB S a w)(p:Addr)(u:Value)(hp:S p.block∨a.heap.size≤p.block):qB S a (w.setCell p u) :=
 h.trans (S':=fun k=>k=p.block) ⟨rfl,rfl,rfl,by simp[World.setCell],fun k _ hn=>Below.heap_setCell _ _ _ _ hn⟩ (fun i e=>by rw[e];exact hp)
theorem qB.grown{row:Option Nat}(h:qB S a w)(hg:w.grownBy w' row)(hs:∀k,row=some k→S k∨a.heap.size≤k):qB S a w' :=
 h.trans (S':=fun k=>row=some k) (qB.qaC hg (fun _ e=>e)) hs
theorem qB.below{B:Nat}(h:qB S a w)(hs:∀i,S i→B≤i)(hB:B≤a.heap.size):Below B a w :=
 ⟨h.os,h.tape,h.output,h.size,fun k hk=>h.block k (by omega) (fun e=>by have:=hs k e;omega)⟩
end
def qo (x:Nat × Bt × Bt × Bool):List Value:=.int .i64 (x.1:Int)::(Lib.byteCells x.2.1++(Lib.byteCells x.2.2.1++[.bool x.2.2.2]))
def uW (l:List (Nat × Bt × Bt × Bool)):List Value:=l.flatMap qo
theorem xT {w w':World}{base e size n:Nat}{v:Value}{xs:List Value}(h:w.ownsRow base e size v n xs)(hb:∀k,v.ownBlock=some k→w'.heap[k]?=w.heap[k]?):w'.ownsRow base e size v n xs:=by
 refine⟨h.1,?_⟩;rcases h.2 with hn|⟨g,cap,cur,rfl,h1,h2,r⟩
 ·exact .inl hn
 ·exact .inr ⟨g,cap,cur,rfl,h1,(hb g rfl).trans h2,r⟩
theorem et {w:World}{base e size n:Nat}{v:Value}{xs:List Value}(h:w.ownsRow base e size v n xs):∀k,v.ownBlock=some k→k<w.heap.size:=by
 intro k hk;rcases h.2 with⟨rfl,_⟩|⟨g,cap,cur,rfl,h1,h2,r⟩
 ·cases hk
 ·simp[Value.ownBlock]at hk;subst hk;exact(Array.getElem?_eq_some_iff.1 h2).1
def kL (w:World)(own:Nat→Prop)(p m:Nat)(v:Value)(d:DD):Prop :=
 qh w p 88 #[.int .i64 (d.n:Int),.int .i64 d.room,.map (some m),v,.bool d.on,.int .i64 d.qz]∧xc w m d.now ∧
 w.ownsRow 0 148 66 v d.more.length (uW (ee d.base d.more)) ∧
 own p∧own m∧(∀k,v.ownBlock=some k→own k)∧(∀k,own k→k<w.heap.size)
def zH (most:Nat)(w:World)(own:Nat→Prop)(p:Nat)(d:DD):Prop:=d.ok most∧∃m v,kL w own p m v d
theorem kL.ne{w:World}{own:Nat→Prop}{p m:Nat}{v:Value}{d:DD}(h:kL w own p m v d):p≠m∧(∀k,v.ownBlock=some k→k≠p∧k≠m):=by
 obtain⟨h1,⟨D,⟨es,clock,h2,_⟩,_⟩,h3,_⟩:=h;unfold qh at h1;refine⟨?_,?_⟩
 ·rintro rfl;rw[h1]at h2;cases h2
 ·intro k hk;rcases h3.2 with⟨rfl,_⟩|⟨g,cap,cur,rfl,_,hg,_⟩
  ·cases hk
  ·simp[Value.ownBlock]at hk;subst hk;refine⟨?_,?_⟩
   ·rintro rfl;rw[h1]at hg;simp only[Option.some.injEq,Obj.cells.injEq]at hg;exact absurd hg.2.1 (by decide)
   ·rintro rfl;rw[h2]at hg;cases hg
theorem kL.keep{w w':World}{own:Nat→Prop}{p m:Nat}{v:Value}{d:DD}(h:kL w own p m v d)(hs:w.heap.size≤w'.heap.size)(hb:∀k,own k→w'.heap[k]?=w.heap[k]?):kL w' own p m v d:=by
 obtain⟨h1,h2,h3,hp,hm,hv,hl⟩:=h;exact⟨h1.of_block (hb _ hp),h2.of_block (hb _ hm),xT h3 (fun k hk=>hb k (hv k hk)),hp,hm,hv,fun k hk=>Nat.lt_of_lt_of_le (hl k hk) hs⟩
theorem zH.keep{most:Nat}{w w':World}{own:Nat→Prop}{p:Nat}{d:DD}(h:zH most w own p d)(hs:w.heap.size≤w'.heap.size)(hb:∀k,own k→w'.heap[k]?=w.heap[k]?):zH most w' own p d:=by
 obtain⟨h0,m,v,h1⟩:=h;exact⟨h0,m,v,h1.keep hs hb⟩
def um (own dK:Nat→Prop)(w:World):Prop:=∀k,dK k→own k∨w.heap.size≤k
theorem um.refl(own:Nat→Prop)(w:World):um own own w:=fun _ h=>.inl h
def xp (most:Nat)(own:Nat→Prop)(p:Nat)(d:DD)(r:Value)(w:World)(e:Ending)(w':World):Prop :=
 e=.returned r∧∃dK,zH most w' dK p d∧qB own w w'∧um own dK w
end Go.Proofs.YtdpbdkacngaemaaGreatDoor.dk

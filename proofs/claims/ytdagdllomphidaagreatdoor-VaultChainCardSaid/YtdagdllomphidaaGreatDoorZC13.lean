/- VtWk, CLaid, VtLaid. -/
import Derived.Test.YtdagdllomphidaaGreatDoorZC12
import Derived.Test.YtdagdllomphidaaGreatDoorRows
import Derived.Deep.DeepHandedRow
import Derived.Lib.LaidTab
import Derived.Deep.DeepLaidRun
import Derived.Stop.LaidErr
import GoSem.PinnedTables
set_option linter.unusedVariables false
set_option linter.unusedSimpArgs false
set_option maxHeartbeats 30000000
set_option maxRecDepth 100000
namespace Go.Proofs.YtdagdllomphidaaGreatDoor.vt
open _root_.Go.Proofs.Tryz Go Go.RowKit Go.Sort ib jr mt im sp
theorem qon{w w':World}{A:Option Addr}{T:Nat}(h:∀j o,A=some ⟨j,o,none⟩→j<w.heap.size∧j≠T)(hb:Below w.heap.size w w'):∀j o,A=some ⟨j,o,none⟩→j<w'.heap.size∧j≠T:=fun j o e=>⟨Nat.lt_of_lt_of_le (h j o e).1 hb.size,(h j o e).2⟩
theorem qjT{B:Nat}{X:Nat→Prop}{w w':World}(h:Ke B X w w')(hB:B≤w.heap.size):Below B w w':=h.below hB
theorem rq {w w':World}{A:Option Addr}{l:List Int}(h:qpN w A l)(hb:Below w.heap.size w w'):qpN w' A l:=fun i hi=>by
 obtain⟨b,o,h1,h2,h3⟩:=h i hi;exact⟨b,o,h1,Nat.lt_of_lt_of_le h2 hb.size,by rw[hb.cell (p:=⟨b,o+i,none⟩) h2];exact h3⟩
def fH (vp TB:Nat)(A:Option Addr)(c:Nat):Nat→Value→World→Prop
 | 0,v,_=>v=.slice A 2 c
 | 1,v,_=>v=.int .i64 0
 | 2,v,_=>v=.bool true
 | 3,v,_=>v=.bool false
 | 4,v,_=>v=.bool false
 | 5,v,_=>v=.pointer (some ⟨TB,2,none⟩)
 | 6,v,_=>v=.agg #[.int .u64 0,.int .u64 0]
 | 7,v,_=>v=.agg #[.int .u64 0,.int .u64 0]
 | 8,v,_=>v=.bool false
 | 9,v,_=>v=.bool false
 | 10,v,_=>v=.bool false
 | 11,v,_=>v=.pointer (some ⟨vp,0,none⟩)
 | 12,v,_=>v=.agg #[.int .u64 1,.int .u64 1]
 | 13,v,_=>v=.agg #[.int .u64 1,.int .u64 3]
 | 14,v,_=>v=.agg #[.int .u64 1,.int .u64 1,.int .u64 1,.int .u64 3,.int .i64 1,.int .i64 1,.slice none 0 0]
 | 15,v,_=>v=.int .i64 2
 | 16,v,_=>v=.bool false
 | 17,v,_=>v=.bool false
 | 18,v,_=>v=.bool false
 | 19,v,_=>v=.pointer (some ⟨vp,0,none⟩)
 | 20,v,_=>v=.int .i64 0
 | 21,v,_=>v=.bool false
 | 22,v,_=>v=.bool false
 | _,_,_=>True
def WkS (IV:yZ)(B:Nat)(X:Nat→Prop)(v pd:Nat)(w0:World)(_ b:Bool)(W:World):Prop:=Ke B X w0 W∧VW IV W B X v pd (if b=true then Q7 else Q5)
theorem wk1{IV:yZ}(H:j9 IV){B v pd:Nat}{X:Nat→Prop}{w0 W:World}(hS:WkS IV B X v pd w0 true false W∨WkS IV B X v pd w0 false false W)(hB:B≤W.heap.size) :
    Calls prog 24 #[.pointer (some ⟨v,0,none⟩),.agg #[.int .u64 1,.int .u64 1,.int .u64 1,.int .u64 3,.int .i64 1,.int .i64 1,.slice none 0 0],.slice none 0 0] W (fun x W'=>x=.returned (.int .i64 2)∧WkS IV B X v pd w0 true false W'):=by
 have h0:Ke B X w0 W∧VW IV W B X v pd Q5:=by
  rcases hS with h|h
  ·exact⟨h.1,h.2⟩
  ·exact⟨h.1,h.2⟩
 refine(rp H h0.2 hB ⟨(1,1),(1,3),1,1⟩ ⟨⟨by decide,by decide⟩,⟨by decide,by decide⟩,by unfold yS;dsimp only;omega,by unfold yS;dsimp only;omega⟩ none 0 [] (ch.aD.nil _ _) (by simp) (fun b o e=>by cases e) (Q':=Q5) (fun _ _ _ _ _ _ _=>q5Q)).mono ?_;rintro e W' ⟨rfl,h1,h2⟩;exact⟨rfl,h0.1.trans h2,h1⟩
theorem wk2{IV:yZ}(H:j9 IV){B v pd:Nat}{X:Nat→Prop}{w0 W:World}(hS:WkS IV B X v pd w0 true false W)(hB:B≤W.heap.size) :
    Calls prog 34 #[.pointer (some ⟨v,0,none⟩),.int .i64 1] W (fun x W'=>x=.returned (.int .i64 0)∧WkS IV B X v pd w0 true true W'):=by
 have h0:Ke B X w0 W∧VW IV W B X v pd Q5:=⟨hS.1,hS.2⟩;refine(qrx H h0.2 hB 1 (by unfold yS;omega) (Q':=Q7) (fun _ _ _ _ _ _ _=>q5R)).mono ?_;rintro e W' ⟨rfl,h1,h2⟩;exact⟨rfl,h0.1.trans h2,h1⟩
theorem qjU{IV:yZ}(H:j9 IV)(w:World)(ht:xJ w):Calls prog 8 #[] w (tV w):=by
 have gW:=QH ht;clear ht;have q5S:Hid (∀W,Calls prog 18 #[.int .u8 97] W (okS la W)):=fun W=>ch.aa 97 W;have HD0:Hid (∀W,Calls prog 18 #[.int .u8 0] W (okS (gG 0) W)):=fun W=>ch.aa 0 W;have qoo:Hid (∀W,Calls prog 23 #[.int .u64 1,.int .u64 1] W fun x w'=>x=.returned (.agg #[.int .u64 1,.int .u64 1])∧Below W.heap.size W w'):=fun W=>ch.xj 1 1 W;have qvL:Hid (∀W,Calls prog 23 #[.int .u64 1,.int .u64 2] W fun x w'=>x=.returned (.agg #[.int .u64 1,.int .u64 2])∧Below W.heap.size W w'):=fun W=>ch.xj 1 2 W;have q5T:Hid (∀W,Calls prog 23 #[.int .u64 1,.int .u64 3] W fun x w'=>x=.returned (.agg #[.int .u64 1,.int .u64 3])∧Below W.heap.size W w'):=fun W=>ch.xj 1 3 W;have q5U:Hid (∀W,Calls prog 23 #[.int .u64 0,.int .u64 0] W fun x w'=>x=.returned (.agg #[.int .u64 0,.int .u64 0])∧Below W.heap.size W w'):=fun W=>ch.xj 0 0 W;go_enter func8,ntmps8;go_wp2_with fail;refine(dk.ux 1000 250 250 (by decide) (by decide) (by decide) (by decide) w).mono ?_;rintro e W1 ⟨pd,o,rfl,hd,hb1,ho⟩;have HD1:=QH hd;have qP:=QH hb1;have HO1:=QH ho;clear hd hb1 ho;go_wp2_with fail;refine(H.qc7 250 250 HD1.out (xo gW.out qP.out (zK gW.out)) (by decide) (by decide)).mono ?_;rintro e W2 ⟨rfl,hb2⟩;have HD2:=QH (HD1.out.keep hb2.size (fun j hj=>hb2.block j (bP HD1.out j hj)));have qy:=QH (qc qP.out hb2);clear hb2 qP HD1;go_wp2_with fail;refine(H.iD 2 250 250 HD2.out (xo gW.out qy.out (zK gW.out)) (fun h=>by have h1:=HO1.out _ h;have h2:=zK gW.out;omega) (by decide) (by decide) (by decide) (by decide) (by decide)).mono ?_;rintro e W3 ⟨rfl,t,d,o',hd3,hj,hr,hf,ya,ho'⟩;have qV:Hid (Below w.heap.size w W3):=qy.out.trans (ya.below (fun j hj=>HO1.out j hj) qy.out.size);have rz:Hid (∀j,o' j→w.heap.size≤j):=fun j hj=>by
  rcases ho' j hj with h|h
  ·exact HO1.out j h
  ·have:=qy.out.size;omega
 clear ya ho' HO1 qy HD2;go_wp2_with fail;refine(H.mQ hd3 (xo gW.out qV.out (zK gW.out)) (fun h=>by have h1:=rz.out _ h;have h2:=zK gW.out;omega) hj.toRJ hf hr).mono ?_;rintro e W4 ⟨v,d',o1,o2,rfl,hv,hj',hf',ya,h1',h2'⟩;have zO:Hid (Below w.heap.size w W4):=qV.out.trans (ya.below (fun j hj=>rz.out j hj) qV.out.size);have HV4:Hid (VW IV W4 w.heap.size (fun _=>False) v pd Q0):=⟨t,d',m0 2,o1,o2,hv,fun j hj=>⟨by
  have hs:=qV.out.size;rcases hj with hj|hj
  ·have:=h1' j hj;omega
  ·rcases h2' j hj with h|h
   ·exact rz.out j h
   ·omega,fun h=>h⟩,⟨fun j hj=>hj.elim,fun h=>h⟩,hr,hj',hf',rfl⟩
 clear hv hd3 hj hj' hr hf hf' ya h1' h2' rz qV;go_wp2_with fail;refine(qjS H HV4.out (by intro t m h;cases h;rfl)).mono ?_;rintro e W5 ⟨rfl,hb⟩;have HV5:=QH (HV4.out.below H hb);have jx:=QH (qc zO.out hb);clear hb HV4 zO;go_wp2_with fail;refine(qbx H HV5.out (l:=[zz,zz]) (by intro t m h;cases h;rw[qbw];rfl)).mono ?_;rintro e W6 ⟨A6,c6,rfl,ht,_,hb⟩;have HV6:=QH (HV5.out.below H hb);have gU:=QH (qc jx.out hb);dsimp only at ht ⊢;have T1:=QH ht;clear ht;clear hb HV5 jx;go_wp2_with fail;refine(ch.jn _ _ [zz,zz] _ W6 T1.out (by decide) vb1.1).mono ?_;rintro e W7 ⟨rfl,hb⟩;have HV7:=QH (HV6.out.below H hb);have HB7:=QH (qc gU.out hb);have T1n:=QH (T1.out.below hb);clear T1;have T1:=QH T1n.out;clear T1n;clear hb HV6 gU;clear T1;go_wp2_with fail;refine(q5S.out W7).mono ?_;rintro e W8 ⟨rfl,hb⟩;have HV8:=QH (HV7.out.below H hb);have HB8:=QH (qc HB7.out hb);clear hb HV7 HB7;go_wp2_with fail;refine(qdG H HV8.out HB8.out.size 0 la (by unfold yS;omega) (fun _ _ _ _ _ _ _=>q5L)).mono ?_;rintro e W9 ⟨rfl,hv,hk⟩;have HV9:=QH hv;have HB9:=QH (HB8.out.trans (hk.below HB8.out.size));clear hv hk HV8 HB8;go_wp2_with fail;refine(qoo.out W9).mono ?_;rintro e W10 ⟨rfl,hb⟩;have q0U:=QH (HV9.out.below H hb);have qfL:=QH (qc HB9.out hb);clear hb HV9 HB9;go_wp2_with fail;refine(qrw H q0U.out qfL.out.size (1,1) ⟨by decide,by decide⟩ (fun _ _ _ _ _ _ _=>q5M)).mono ?_;rintro e W11 ⟨rfl,hv,hk⟩;have q0V:=QH hv;have qfM:=QH (qfL.out.trans (hk.below qfL.out.size));clear hv hk q0U qfL;go_wp2_with fail;refine(HD0.out W11).mono ?_;rintro e W12 ⟨rfl,hb⟩;have q0W:=QH (q0V.out.below H hb);have qrz:=QH (qc qfM.out hb);clear hb q0V qfM;go_wp2_with fail;refine(qdG H q0W.out qrz.out.size 0 (gG 0) (by unfold yS;omega) (fun _ _ _ _ _ _ _=>q5N)).mono ?_;rintro e W13 ⟨rfl,hv,hk⟩;have q0X:=QH hv;have q0Y:=QH (qrz.out.trans (hk.below qrz.out.size));clear hv hk q0W qrz;go_wp2_with fail;refine(qoo.out W13).mono ?_;rintro e W14 ⟨rfl,hb⟩;have qvN:=QH (q0X.out.below H hb);have q0Z:=QH (qc q0Y.out hb);clear hb q0X q0Y;go_wp2_with fail;refine(qht H qvN.out (1,1) ⟨by decide,by decide⟩ (r:=([la,zz],0)) (by intro t m h;rw[h.1];rfl)).mono ?_;rintro e W15 ⟨A15,c15,rfl,ht,_,hb⟩;have qvO:=QH (qvN.out.below H hb);have qn7:=QH (qc q0Z.out hb);dsimp only at ht ⊢;have T1:=QH ht;clear ht;clear hb qvN q0Z;go_wp2_with fail;refine(qbx H qvO.out (l:=[zz,zz]) (by intro t m h;rw[h.1])).mono ?_;rintro e W16 ⟨A16,c16,rfl,ht,_,hb⟩;have q1a:=QH (qvO.out.below H hb);have q1b:=QH (qc qn7.out hb);have T1n:=QH (T1.out.below hb);clear T1;have T1:=QH T1n.out;clear T1n;dsimp only at ht ⊢;have T2:=QH ht;clear ht;clear hb qvO qn7;go_wp2_with fail;refine(ch.jn _ _ [la,zz] _ W16 T1.out (by decide) vb1.2.1).mono ?_;rintro e W17 ⟨rfl,hb⟩;have q1c:=QH (q1a.out.below H hb);have q1d:=QH (qc q1b.out hb);have T1n:=QH (T1.out.below hb);clear T1;have T1:=QH T1n.out;clear T1n;have T2n:=QH (T2.out.below hb);clear T2;have T2:=QH T2n.out;clear T2n;clear hb q1a q1b;clear T1;go_wp2_with fail;refine(ch.jn _ _ [zz,zz] _ W17 T2.out (by decide) vb1.1).mono ?_;rintro e W18 ⟨rfl,hb⟩;have q1f:=QH (q1c.out.below H hb);have qj2:=QH (qc q1d.out hb);have T2n:=QH (T2.out.below hb);clear T2;have T2:=QH T2n.out;clear T2n;clear hb q1c q1d;clear T2;go_wp2_with fail;refine(qoo.out W18).mono ?_;rintro e W19 ⟨rfl,hb⟩;have q1g:=QH (q1f.out.below H hb);have q1h:=QH (qc qj2.out hb);clear hb q1f qj2;go_wp2_with fail;refine(qvL.out W19).mono ?_;rintro e W20 ⟨rfl,hb⟩;have q1i:=QH (q1g.out.below H hb);have q1j:=QH (qc q1h.out hb);clear hb q1g q1h;go_wp2_with fail;have HBP:=QH ((Below.refl W20.heap.size W20).alloc (Nat.le_refl _) (.cells #[.int .i64 0,.int .u8 0] 73));have HPT:Hid (ch.PtL (W20.alloc (.cells #[.int .i64 0,.int .u8 0] 73)) (some ⟨W20.heap.size,0,none⟩) [((0:Int),(0:UInt8))]):=ch.qbs W20 0 0 (by unfold yS;omega);have iR:=QH (ch.kD (some ⟨W20.heap.size,0,none⟩) 1 [((0:Int),(0:UInt8))] _ HPT.out (by simp));have HCO:ch.aP [((0:Int),(0:UInt8))]=[((0:Int),gG 0)]:=rfl;rw[HCO]at iR;obtain⟨S21,qvQ⟩:=QE (gG 0);rw[qvQ]at iR;have q5V:=QH qvQ;clear HCO qvQ;refine iR.out.mono ?_;rintro e W21 ⟨v1,rfl,ho1,hb1⟩;obtain⟨A21,c21,hv1,hl1,eZ⟩:=ho1.qcX (by intro y hy;simp at hy;subst hy;unfold yS;dsimp only;omega);subst hv1;have q1k:Hid (ch.aD W21 A21 [((0:Int),S21)]):=hl1;have yD:=QH (qc HBP.out hb1);have q1l:Hid (VW IV W21 w.heap.size (fun j=>(fun _=>False) j∨∃o,A21=some ⟨j,o,none⟩) v pd _):=q1i.out.more H yD.out (fun j hj=>by
  rcases hj with hj|⟨o,hj⟩
  ·exact .inl hj
  ·exact .inr ⟨Nat.le_trans HBP.out.size (eZ j o hj).1,(eZ j o hj).2⟩)
 have qr0:=QH (qc q1j.out yD.out);clear ho1 hl1 eZ hb1 yD HBP HPT iR q1i q1j;go_wp2_with fail;refine(rp H q1l.out qr0.out.size ⟨(1,1),(1,2),1,2⟩ ⟨⟨by decide,by decide⟩,⟨by decide,by decide⟩,by unfold yS;dsimp only;omega,by unfold yS;dsimp only;omega⟩ A21 c21 [((0:Int),S21)] q1k.out (by simp) (fun b o e=>.inr ⟨o,e⟩) (fun _ _ _ _ _ _ _=>by rw[← q5V.out];exact q5O)).mono ?_;rintro e W22 ⟨rfl,hv,hk⟩;have qjV:=QH hv;have q1m:=QH (qr0.out.trans (hk.below qr0.out.size));clear hv hk q1l qr0;have qsU:=QH (qjV.out.eJ (Y:=(fun _=>False)) (fun j hj=>.inl hj));clear qjV q1k;have qjV:=QH qsU.out;clear qsU;go_wp2_with fail;refine(qdF H qjV.out (k:=⟨(1,1),(1,2),1,2,[0,0]⟩) (by rintro t m ⟨_,a,y,rfl⟩;rfl)).mono ?_;rintro e W23 ⟨A23,c23,rfl,hi,_,hb⟩;have q1n:=QH (qjV.out.below H hb);have qvS:=QH (qc q1m.out hb);have HI:=QH hi;clear hi;unfold tkV tf;dsimp only[List.length_cons,List.length_nil,Nat.reduceAdd,Nat.zero_add];clear hb qjV q1m;go_wp2_with fail;have kg:=QH (qf.new W23 59 #[.int .u64 1,.int .u64 1,.int .u64 1,.int .u64 2,.int .i64 1,.int .i64 2,.slice A23 2 c23]);have HBT:=QH ((Below.refl W23.heap.size W23).alloc (Nat.le_refl _) (.cells #[.int .u64 1,.int .u64 1,.int .u64 1,.int .u64 2,.int .i64 1,.int .i64 2,.slice A23 2 c23] 59));have qoq:Hid (VW IV (W23.alloc (.cells #[.int .u64 1,.int .u64 1,.int .u64 1,.int .u64 2,.int .i64 1,.int .i64 2,.slice A23 2 c23] 59)) w.heap.size (fun j=>j=W23.heap.size) v pd Q4):=q1n.out.more H HBT.out (fun j hj=>.inr ⟨by rw[hj];exact Nat.le_refl _,by rw[hj];simp⟩);have qvT:=QH (qc qvS.out HBT.out);have HIn:=QH (rq HI.out HBT.out);obtain⟨W24,q1o⟩:=QE (W23.alloc (.cells #[.int .u64 1,.int .u64 1,.int .u64 1,.int .u64 2,.int .i64 1,.int .i64 2,.slice A23 2 c23] 59));rw[q1o]at kg HBT qoq qvT HIn ⊢;obtain⟨TB,hTB⟩:=QE W23.heap.size;rw[hTB]at kg qoq ⊢;have sK:Hid (TB<W24.heap.size):=kg.out.lt;have HTG:Hid (w.heap.size≤TB):=by rw[← hTB];exact qvS.out.size
 clear q1o hTB HBT HI q1n qvS;have HI:=QH HIn.out;clear HIn;go_wp2_with fail;refine(qhu H qoq.out (l:=[(1,1)]) (by rintro t m ⟨h,_⟩;rw[h];rfl)).mono ?_;rintro e W25 ⟨A25,c25,rfl,_,_,hb⟩;have q1p:=QH (qoq.out.below H hb);have q1q:=QH (qc qvT.out hb);have kE:=QH (kg.out.below hb);clear kg;have kg:=QH kE.out;clear kE;have HIn:=QH (rq HI.out hb);clear HI;have HI:=QH HIn.out;clear HIn;clear hb qoq qvT;obtain⟨bi,oi,hAi,li,i0⟩:=HI.out 0 (by decide);obtain⟨bi2,oi2,q5X,li2,i1⟩:=HI.out 1 (by decide);subst hAi;cases q5X;simp only[Nat.add_zero,List.getElem_cons_zero,List.getElem_cons_succ]at i0 i1;have qvU:=kg.out.lt;have cz2:=kg.out.cell 2;have cz3:=kg.out.cell 3;have cz4:=kg.out.cell 4;have cz5:=kg.out.cell 5;have cz6:=kg.out.cell 6;simp only[QA,QB,QC]at cz2 cz3 cz4 cz5 cz6;dsimp only[List.length_cons,List.length_nil,Nat.reduceAdd,Nat.zero_add];go_wp2_with fail;refine(qoo.out W25).mono ?_;rintro e W26 ⟨rfl,hb⟩;have q1w:=QH (q1p.out.below H hb);have q1x:=QH (qc q1q.out hb);have kE:=QH (kg.out.below hb);clear kg;have kg:=QH kE.out;clear kE;clear hb q1p q1q;clear i0 i1 li li2 cz2 cz3 cz4 cz5 cz6 qvU HI;go_wp2_with fail;refine(qvL.out W26).mono ?_;rintro e W27 ⟨rfl,hb⟩;have q1y:=QH (q1w.out.below H hb);have q1z:=QH (qc q1x.out hb);have kE:=QH (kg.out.below hb);clear kg;have kg:=QH kE.out;clear kE;clear hb q1w q1x;go_wp2_with fail;have HBP:=QH ((Below.refl W27.heap.size W27).alloc (Nat.le_refl _) (.cells #[.int .i64 1,.int .u8 97] 73));have HPT:Hid (ch.PtL (W27.alloc (.cells #[.int .i64 1,.int .u8 97] 73)) (some ⟨W27.heap.size,0,none⟩) [((1:Int),(97:UInt8))]):=ch.qbs W27 1 97 (by unfold yS;omega);have iR:=QH (ch.kD (some ⟨W27.heap.size,0,none⟩) 1 [((1:Int),(97:UInt8))] _ HPT.out (by simp));have HCO:ch.aP [((1:Int),(97:UInt8))]=[((1:Int),la)]:=rfl;rw[HCO]at iR;obtain⟨S28,qvV⟩:=QE la;rw[qvV]at iR;have q5Y:=QH qvV;clear HCO qvV;refine iR.out.mono ?_;rintro e W28 ⟨v1,rfl,ho1,hb1⟩;obtain⟨A28,c28,hv1,hl1,eZ⟩:=ho1.qcX (by intro y hy;simp at hy;subst hy;unfold yS;dsimp only;omega);subst hv1;have q10:Hid (ch.aD W28 A28 [((1:Int),S28)]):=hl1;have yD:=QH (qc HBP.out hb1);have q11:Hid (VW IV W28 w.heap.size (fun j=>(fun j=>j=TB) j∨∃o,A28=some ⟨j,o,none⟩) v pd _):=q1y.out.more H yD.out (fun j hj=>by
  rcases hj with hj|⟨o,hj⟩
  ·exact .inl hj
  ·exact .inr ⟨Nat.le_trans HBP.out.size (eZ j o hj).1,(eZ j o hj).2⟩)
 have qr1:=QH (qc q1z.out yD.out);have kE:=QH (kg.out.below yD.out);clear kg;have kg:=QH kE.out;clear kE;clear ho1 hl1 eZ hb1 yD HBP HPT iR q1y q1z;go_wp2_with fail;refine(rp H q11.out qr1.out.size ⟨(1,1),(1,2),2,2⟩ ⟨⟨by decide,by decide⟩,⟨by decide,by decide⟩,by unfold yS;dsimp only;omega,by unfold yS;dsimp only;omega⟩ A28 c28 [((1:Int),S28)] q10.out (by simp) (fun b o e=>.inr ⟨o,e⟩) (fun _ _ _ _ _ _ _=>by rw[← q5Y.out];exact q5P)).mono ?_;rintro e W29 ⟨rfl,hv,hk⟩;have qjW:=QH hv;have q12:=QH (qr1.out.trans (hk.below qr1.out.size));have kE:=QH (kg.out.of_block (hk.block kg.out.lt (.inl (.inl rfl))));clear kg;have kg:=QH kE.out;clear kE;clear hv hk q11 qr1;have qsV:=QH (qjW.out.eJ (Y:=(fun j=>j=TB)) (fun j hj=>.inl hj));clear qjW q10;have qjW:=QH qsV.out;clear qsV;go_wp2_with fail;refine(qhu H qjW.out (l:=[(1,1),(1,2)]) (by rintro t m ⟨h,_⟩;rw[h];rfl)).mono ?_;rintro e W30 ⟨A30,c30,rfl,_,_,hb⟩;have q13:=QH (qjW.out.below H hb);have q14:=QH (qc q12.out hb);have kE:=QH (kg.out.below hb);clear kg;have kg:=QH kE.out;clear kE;clear hb qjW q12;dsimp only[List.length_cons,List.length_nil,Nat.reduceAdd,Nat.zero_add];go_wp2_with fail;refine(qvL.out W30).mono ?_;rintro e W31 ⟨rfl,hb⟩;have qvW:=QH (q13.out.below H hb);have q15:=QH (qc q14.out hb);have kE:=QH (kg.out.below hb);clear kg;have kg:=QH kE.out;clear kE;clear hb q13 q14;have HTP:=QH kg.out.lt;go_wp2_with fail;refine(qht H qvW.out (1,2) ⟨by decide,by decide⟩ (r:=([zz,la],0)) (by rintro t m ⟨h,_⟩;rw[h];rfl)).mono ?_;rintro e W32 ⟨AX,cX,rfl,ht,hna,hb⟩;dsimp only at ht ⊢;have T1:=QH ht;have kE:=QH (kg.out.below hb);clear kg;have kg:=QH kE.out;clear kE;have qvX:Hid (VW IV W32 w.heap.size (fun j=>j=TB∨∃o,AX=some ⟨j,o,none⟩) v pd Q5):=qvW.out.more H hb (fun j hj=>by
  rcases hj with hj|⟨o,hj⟩
  ·exact .inl hj
  ·exact .inr (hna j o hj))
 have HNA:Hid (∀j o,AX=some ⟨j,o,none⟩→j<W32.heap.size∧j≠TB):=fun j o e=>⟨(hna j o e).2,fun h=>by
  have h1:=(hna j o e).1;have h2:=HTP.out;omega⟩
 have q16:=QH (qc q15.out hb);clear ht hna hb qvW q15;go_wp2_with fail;refine(qdF H qvX.out (k:=zI) (fun _ _ h=>h.2)).mono ?_;rintro e W33 ⟨AK,cK,rfl,_,_,hb⟩;have q17:=QH (qvX.out.below H hb);have qvY:=QH (qc q16.out hb);have kE:=QH (kg.out.below hb);clear kg;have kg:=QH kE.out;clear kE;have T1n:=QH (T1.out.below hb);clear T1;have T1:=QH T1n.out;clear T1n;have q18:=QH (qon HNA.out hb);clear HNA;have HNA:=QH q18.out;clear q18;unfold tkV tf zI;dsimp only[List.length_cons,List.length_nil,Nat.reduceAdd,Nat.zero_add];clear hb qvX q16;have qvU:=kg.out.lt;have fz0:=kg.out.frozen 0;have fz1:=kg.out.frozen 1;have fz2:=kg.out.frozen 2;have fz3:=kg.out.frozen 3;have fz4:=kg.out.frozen 4;have fz5:=kg.out.frozen 5;have fz6:=kg.out.frozen 6;have cz0:=kg.out.cell 0;have cz1:=kg.out.cell 1;have cz2:=kg.out.cell 2;have cz3:=kg.out.cell 3;have cz4:=kg.out.cell 4;have cz5:=kg.out.cell 5;have cz6:=kg.out.cell 6;simp only[QA,QB,QC]at cz0 cz1 cz2 cz3 cz4 cz5 cz6;have jR:=QH (((((((kg.out.qo 0 (.int .u64 0)).qo 1 (.int .u64 0)).qo 2 (.int .u64 0)).qo 3 (.int .u64 0)).qo 4 (.int .i64 0)).qo 5 (.int .i64 0)).qo 6 (.slice AK 0 cK));have HBu:Hid (qx (fun j=>j=TB) W33 (((((((W33.setCell ⟨TB,0,none⟩ (.int .u64 0)).setCell ⟨TB,1,none⟩ (.int .u64 0)).setCell ⟨TB,2,none⟩ (.int .u64 0)).setCell ⟨TB,3,none⟩ (.int .u64 0)).setCell ⟨TB,4,none⟩ (.int .i64 0)).setCell ⟨TB,5,none⟩ (.int .i64 0)).setCell ⟨TB,6,none⟩ (.slice AK 0 cK))):=((((((((((((((qx.refl (fun j=>j=TB) W33).setCell ⟨TB,0,none⟩ (.int .u64 0) (.inl rfl))).setCell ⟨TB,1,none⟩ (.int .u64 0) (.inl rfl))).setCell ⟨TB,2,none⟩ (.int .u64 0) (.inl rfl))).setCell ⟨TB,3,none⟩ (.int .u64 0) (.inl rfl))).setCell ⟨TB,4,none⟩ (.int .i64 0) (.inl rfl))).setCell ⟨TB,5,none⟩ (.int .i64 0) (.inl rfl))).setCell ⟨TB,6,none⟩ (.slice AK 0 cK) (.inl rfl));go_wp2_with fail;clear fz0 cz0 fz1 cz1 fz2 cz2 fz3 cz3 fz4 cz4 fz5 cz5 fz6 cz6 qvU;obtain⟨W34,q19⟩:=QE ((((((((W33.setCell ⟨TB,0,none⟩ (.int .u64 0)).setCell ⟨TB,1,none⟩ (.int .u64 0)).setCell ⟨TB,2,none⟩ (.int .u64 0)).setCell ⟨TB,3,none⟩ (.int .u64 0)).setCell ⟨TB,4,none⟩ (.int .i64 0)).setCell ⟨TB,5,none⟩ (.int .i64 0)).setCell ⟨TB,6,none⟩ (.slice AK 0 cK)):World);rw[q19]at jR HBu ⊢;have q1A:=QH (q17.out.turn H (HBu.out.mono fun j hj=>.inl hj));have qor:Hid (Below w.heap.size w W34):=qvY.out.trans (HBu.out.below (fun j hj=>by rw[hj];exact HTG.out) qvY.out.size);have T2:Hid (TxL W34 AX [zz,la]):=T1.out.kept HBu.out.size (fun b o e=>HBu.out.block b (HNA.out b o e).1 (HNA.out b o e).2);have HNB:Hid (∀j o,AX=some ⟨j,o,none⟩→j<W34.heap.size):=fun j o e=>Nat.lt_of_lt_of_le (HNA.out j o e).1 HBu.out.size;have hlt2:=jR.out.lt;clear q19 kg T1 HNA q17 qvY HBu;have rr:Hid (WkS IV w.heap.size (fun j=>j=TB∨∃o,AX=some ⟨j,o,none⟩) v pd W34 false false W34.drew):=⟨Ke.of_below (gu (Below.refl _ _) 1),q1A.out.below H (gu (Below.refl _ _) 1)⟩;refine yU (by kernel_rfl) [158,159,160,161,162,163,164,165,166,167,168,169,170,171,172,173,174,175,176,177,178,179,180] (by kernel_rfl) (fun L vs W=>WkS IV w.heap.size (fun j=>j=TB∨∃o,AX=some ⟨j,o,none⟩) v pd W34 (L 15) (L 20) W∧((L 20=true→L 15=true)∧(L 18=true→L 15=true))∧∀i,L i=true→i<23→fH v TB AX cX i (vs i) W) ⟨rr.out,⟨fun h=>(by cases h),fun h=>(by cases h)⟩,fun i hi=>by cases hi⟩ ?_ ?_ ?_
 ·intro i o L vs ρ W ho nv qF hρ hgd hI;obtain⟨hS,hC,aT⟩:=hI;have hG:∀j,L j=true→fH v TB AX cX j (vs j) W:=fun j hj=>by
   by_cases h16:j<23
   ·exact aT j hj h16
   ·match j,h16 with
    | j+23,_=>exact trivial
  have qqK:i<23:=(Array.getElem?_eq_some_iff.1 ho).1;have hc:=hρ.const;have hfn:=hρ.fn;have mi:∀vv W',fH v TB AX cX i vv W'→∀j,zm L i j=true→j<23→fH v TB AX cX j (xm vs i vv j) W':=fun vv W' h2 j hj h16=>by
   by_cases wZ:j=i
   ·subst wZ;simpa[xm]using h2
   ·simp only[zm,if_neg wZ]at hj;have:=aT j hj h16;simp only[xm,if_neg wZ]
    match j,h16,this with
    | 0,_,h=>exact h
    | 1,_,h=>exact h
    | 2,_,h=>exact h
    | 3,_,h=>exact h
    | 4,_,h=>exact h
    | 5,_,h=>exact h
    | 6,_,h=>exact h
    | 7,_,h=>exact h
    | 8,_,h=>exact h
    | 9,_,h=>exact h
    | 10,_,h=>exact h
    | 11,_,h=>exact h
    | 12,_,h=>exact h
    | 13,_,h=>exact h
    | 14,_,h=>exact h
    | 15,_,h=>exact h
    | 16,_,h=>exact h
    | 17,_,h=>exact h
    | 18,_,h=>exact h
    | 19,_,h=>exact h
    | 20,_,h=>exact h
    | 21,_,h=>exact h
    | 22,_,h=>exact h
    | j+23,h,_=>exact absurd h (by omega)
  have next:i≠15→i≠20→(i=18→L 15=true)→∀vv W',WkS IV w.heap.size (fun j=>j=TB∨∃o,AX=some ⟨j,o,none⟩) v pd W34 (L 15) (L 20) W'→fH v TB AX cX i vv W'→WkS IV w.heap.size (fun j=>j=TB∨∃o,AX=some ⟨j,o,none⟩) v pd W34 (zm L i 15) (zm L i 20) W'∧((zm L i 20=true→zm L i 15=true)∧(zm L i 18=true→zm L i 15=true))∧∀j,zm L i j=true→j<23→fH v TB AX cX j (xm vs i vv j) W':=fun n1 n2 n3 vv W' h1 h2=>by
   refine⟨?_,⟨?_,?_⟩,mi vv W' h2⟩
   ·simp only[zm,if_neg (Ne.symm n1),if_neg (Ne.symm n2)];exact h1
   ·simp only[zm,if_neg (Ne.symm n1),if_neg (Ne.symm n2)];exact hC.1
   ·intro hm;simp only[zm,if_neg (Ne.symm n1)];by_cases vr:18=i
    ·exact n3 vr.symm
    ·simp only[zm,if_neg vr]at hm;exact hC.2 hm
  have hke:=hS.1;have hkt:=jR.out.of_block (hke.block hlt2 (.inl (.inl rfl)));have z2:=hkt.cell 2;have z3:=hkt.cell 3;have zl:=hkt.lt;simp only[QA,QB,QC,Array.setIfInBounds,List.set_cons_zero,List.set_cons_succ]at z2 z3;rcases i with _|_|_|_|_|_|_|_|_|_|_|_|_|_|_|_|_|_|_|_|_|_|_|i;all_goals (first|omega|skip)
  all_goals simp only[QA,QB,QC,Option.some.injEq]at ho
  all_goals subst ho
  ·have o6:ρ (.tmp 6)=.slice AX 2 cX:=hρ.out 6 rfl;exact q9 (w':=W) (by unfold execOp;simp only[o6,hc];go_simp) (next (by decide) (by decide) (fun h=>absurd h (by decide)) _ _ hS rfl)
  ·have o7:ρ (.tmp 7)=.int .i64 0:=hρ.out 7 rfl;exact q9 (w':=W) (by unfold execOp;simp only[o7,hc];go_simp) (next (by decide) (by decide) (fun h=>absurd h (by decide)) _ _ hS rfl)
  ·have q6b:fH v TB AX cX 0 (vs 0) W:=hG 0 (qF 0 (by kernel_rfl));have q6c:ρ (.tmp 158)=.slice AX 2 cX:=(hρ.at_ 158 0 rfl).trans q6b;have q6d:fH v TB AX cX 1 (vs 1) W:=hG 1 (qF 1 (by kernel_rfl));have q6e:ρ (.tmp 159)=.int .i64 0:=(hρ.at_ 159 1 rfl).trans q6d;refine qi (f:=36) (args:=#[.slice AX 2 cX,.int .i64 0,.string ⟨#[48,97]⟩]) (w':=W) (by unfold execOp;simp only[hfn,q6c,q6e];go_simp) ((ch.jn AX cX [zz,la] _ W (T2.out.kept hS.1.size (fun b o e=>hS.1.block (HNB.out b o e) (.inl (.inr ⟨o,e⟩)))) (by decide) vb1.2.2).mono ?_);rintro x W' ⟨rfl,hb'⟩;exact⟨_,rfl,next (by decide) (by decide) (fun h=>absurd h (by decide)) _ _ (⟨hS.1.trans (Ke.of_below hb'),hS.2.below H hb'⟩) rfl⟩
  ·have q6f:fH v TB AX cX 2 (vs 2) W:=hG 2 (qF 2 (by kernel_rfl));have q6g:ρ (.tmp 160)=.bool true:=(hρ.at_ 160 2 rfl).trans q6f;exact q9 (w':=W) (by unfold execOp;simp only[q6g,hc];go_simp) (next (by decide) (by decide) (fun h=>absurd h (by decide)) _ _ hS rfl)
  ·have q6h:fH v TB AX cX 3 (vs 3) W:=hG 3 (qF 3 (by kernel_rfl));have q6i:ρ (.tmp 161)=.bool false:=(hρ.at_ 161 3 rfl).trans q6h;exact q9 (w':=W) (by unfold execOp;simp only[q6i,hc];go_simp) (next (by decide) (by decide) (fun h=>absurd h (by decide)) _ _ hS rfl)
  ·have o10:ρ (.tmp 10)=.pointer (some ⟨TB,0,none⟩):=hρ.out 10 rfl;exact q9 (w':=W) (by unfold execOp;simp only[o10,hc];go_simp) (next (by decide) (by decide) (fun h=>absurd h (by decide)) _ _ hS rfl)
  ·have q6j:fH v TB AX cX 5 (vs 5) W:=hG 5 (qF 5 (by kernel_rfl));have q6k:ρ (.tmp 163)=.pointer (some ⟨TB,2,none⟩):=(hρ.at_ 163 5 rfl).trans q6j;exact q9 (w':=W) (by unfold execOp;simp only[q6k,hc];go_simp) (next (by decide) (by decide) (fun h=>absurd h (by decide)) _ _ hS rfl)
  ·refine qi (f:=23) (args:=#[.int .u64 0,.int .u64 0]) (w':=W) (by unfold execOp;simp only[hfn,];go_simp) ((q5U.out W).mono ?_);rintro x W' ⟨rfl,hb'⟩;exact⟨_,rfl,next (by decide) (by decide) (fun h=>absurd h (by decide)) _ _ (⟨hS.1.trans (Ke.of_below hb'),hS.2.below H hb'⟩) rfl⟩
  ·have q6l:fH v TB AX cX 6 (vs 6) W:=hG 6 (qF 6 (by kernel_rfl));have q6m:ρ (.tmp 164)=.agg #[.int .u64 0,.int .u64 0]:=(hρ.at_ 164 6 rfl).trans q6l;have q6n:fH v TB AX cX 7 (vs 7) W:=hG 7 (qF 7 (by kernel_rfl));have q6o:ρ (.tmp 165)=.agg #[.int .u64 0,.int .u64 0]:=(hρ.at_ 165 7 rfl).trans q6n;exact q9 (w':=W) (by unfold execOp;simp only[q6m,q6o,hc];go_simp) (next (by decide) (by decide) (fun h=>absurd h (by decide)) _ _ hS rfl)
  ·have q6p:fH v TB AX cX 4 (vs 4) W:=hG 4 (qF 4 (by kernel_rfl));have q6q:ρ (.tmp 162)=.bool false:=(hρ.at_ 162 4 rfl).trans q6p;have q6r:fH v TB AX cX 8 (vs 8) W:=hG 8 (qF 8 (by kernel_rfl));have q6s:ρ (.tmp 166)=.bool false:=(hρ.at_ 166 8 rfl).trans q6r;exact q9 (w':=W) (by unfold execOp;simp only[q6q,q6s,hc];go_simp) (next (by decide) (by decide) (fun h=>absurd h (by decide)) _ _ hS rfl)
  ·have q6t:fH v TB AX cX 9 (vs 9) W:=hG 9 (qF 9 (by kernel_rfl));have q6u:ρ (.tmp 167)=.bool false:=(hρ.at_ 167 9 rfl).trans q6t;exact q9 (w':=W) (by unfold execOp;simp only[q6u,hc];go_simp) (next (by decide) (by decide) (fun h=>absurd h (by decide)) _ _ hS rfl)
  ·have o4:ρ (.tmp 4)=.pointer (some ⟨v,0,none⟩):=hρ.out 4 rfl;exact q9 (w':=W) (by unfold execOp;simp only[o4,hc];go_simp) (next (by decide) (by decide) (fun h=>absurd h (by decide)) _ _ hS rfl)
  ·refine qi (f:=23) (args:=#[.int .u64 1,.int .u64 1]) (w':=W) (by unfold execOp;simp only[hfn,];go_simp) ((qoo.out W).mono ?_);rintro x W' ⟨rfl,hb'⟩;exact⟨_,rfl,next (by decide) (by decide) (fun h=>absurd h (by decide)) _ _ (⟨hS.1.trans (Ke.of_below hb'),hS.2.below H hb'⟩) rfl⟩
  ·refine qi (f:=23) (args:=#[.int .u64 1,.int .u64 3]) (w':=W) (by unfold execOp;simp only[hfn,];go_simp) ((q5T.out W).mono ?_);rintro x W' ⟨rfl,hb'⟩;exact⟨_,rfl,next (by decide) (by decide) (fun h=>absurd h (by decide)) _ _ (⟨hS.1.trans (Ke.of_below hb'),hS.2.below H hb'⟩) rfl⟩
  ·have q6v:fH v TB AX cX 12 (vs 12) W:=hG 12 (qF 12 (by kernel_rfl));have q6w:ρ (.tmp 170)=.agg #[.int .u64 1,.int .u64 1]:=(hρ.at_ 170 12 rfl).trans q6v;have q6x:fH v TB AX cX 13 (vs 13) W:=hG 13 (qF 13 (by kernel_rfl));have q6y:ρ (.tmp 171)=.agg #[.int .u64 1,.int .u64 3]:=(hρ.at_ 171 13 rfl).trans q6x;exact q9 (w':=W) (by unfold execOp;simp only[q6w,q6y,hc];go_simp) (next (by decide) (by decide) (fun h=>absurd h (by decide)) _ _ hS rfl)
  ·have q6z:fH v TB AX cX 11 (vs 11) W:=hG 11 (qF 11 (by kernel_rfl));have q61:ρ (.tmp 169)=.pointer (some ⟨v,0,none⟩):=(hρ.at_ 169 11 rfl).trans q6z;have q62:fH v TB AX cX 14 (vs 14) W:=hG 14 (qF 14 (by kernel_rfl));have q63:ρ (.tmp 172)=.agg #[.int .u64 1,.int .u64 1,.int .u64 1,.int .u64 3,.int .i64 1,.int .i64 1,.slice none 0 0]:=(hρ.at_ 172 14 rfl).trans q62;have n2:L 20=false:=by
    cases hx:L 20 with
    | false=>rfl
    | true=>exact absurd (hC.1 hx) (by rw[nv];decide)
   rw[nv,n2]at hS;refine qi (f:=24) (args:=#[.pointer (some ⟨v,0,none⟩),.agg #[.int .u64 1,.int .u64 1,.int .u64 1,.int .u64 3,.int .i64 1,.int .i64 1,.slice none 0 0],.slice none 0 0]) (w':=W) (by unfold execOp;simp only[hfn,q61,q63];go_simp) ((wk1 H (.inr hS) (Nat.le_trans qor.out.size hS.1.size)).mono ?_);rintro x W' ⟨rfl,h1⟩;refine⟨_,rfl,?_,⟨fun _=>by simp[zm],fun _=>by simp[zm]⟩,mi _ _ rfl⟩;simp only[zm,n2];exact h1
  ·have q64:fH v TB AX cX 15 (vs 15) W:=hG 15 (qF 15 (by kernel_rfl));have q65:ρ (.tmp 173)=.int .i64 2:=(hρ.at_ 173 15 rfl).trans q64;exact q9 (w':=W) (by unfold execOp;simp only[q65,hc];go_simp) (next (by decide) (by decide) (fun h=>absurd h (by decide)) _ _ hS rfl)
  ·have q66:fH v TB AX cX 10 (vs 10) W:=hG 10 (qF 10 (by kernel_rfl));have q67:ρ (.tmp 168)=.bool false:=(hρ.at_ 168 10 rfl).trans q66;have q68:fH v TB AX cX 16 (vs 16) W:=hG 16 (qF 16 (by kernel_rfl));have q69:ρ (.tmp 174)=.bool false:=(hρ.at_ 174 16 rfl).trans q68;exact q9 (w':=W) (by unfold execOp;simp only[q67,q69,hc];go_simp) (next (by decide) (by decide) (fun h=>absurd h (by decide)) _ _ hS rfl)
  ·have q6A:fH v TB AX cX 17 (vs 17) W:=hG 17 (qF 17 (by kernel_rfl));have q6B:ρ (.tmp 175)=.bool false:=(hρ.at_ 175 17 rfl).trans q6A;exact q9 (w':=W) (by unfold execOp;simp only[q6B,hc];go_simp) (next (by decide) (by decide) (fun _=>qF 15 (by kernel_rfl)) _ _ hS rfl)
  ·have o4:ρ (.tmp 4)=.pointer (some ⟨v,0,none⟩):=hρ.out 4 rfl;exact q9 (w':=W) (by unfold execOp;simp only[o4,hc];go_simp) (next (by decide) (by decide) (fun h=>absurd h (by decide)) _ _ hS rfl)
  ·have q6C:fH v TB AX cX 19 (vs 19) W:=hG 19 (qF 19 (by kernel_rfl));have q6D:ρ (.tmp 177)=.pointer (some ⟨v,0,none⟩):=(hρ.at_ 177 19 rfl).trans q6C;have yq1:L 15=true:=hC.2 (qF 18 (by kernel_rfl));rw[nv,yq1]at hS;refine qi (f:=34) (args:=#[.pointer (some ⟨v,0,none⟩),.int .i64 1]) (w':=W) (by unfold execOp;simp only[hfn,q6D];go_simp) ((wk2 H hS (Nat.le_trans qor.out.size hS.1.size)).mono ?_);rintro x W' ⟨rfl,h1⟩;refine⟨_,rfl,?_,⟨fun _=>by simp[zm,yq1],fun _=>by simp[zm,yq1]⟩,mi _ _ rfl⟩;simp only[zm,yq1];exact h1
  ·have q6E:fH v TB AX cX 20 (vs 20) W:=hG 20 (qF 20 (by kernel_rfl));have q6F:ρ (.tmp 178)=.int .i64 0:=(hρ.at_ 178 20 rfl).trans q6E;exact q9 (w':=W) (by unfold execOp;simp only[q6F,hc];go_simp) (next (by decide) (by decide) (fun h=>absurd h (by decide)) _ _ hS rfl)
  ·have q6G:fH v TB AX cX 18 (vs 18) W:=hG 18 (qF 18 (by kernel_rfl));have q6H:ρ (.tmp 176)=.bool false:=(hρ.at_ 176 18 rfl).trans q6G;have q6I:fH v TB AX cX 21 (vs 21) W:=hG 21 (qF 21 (by kernel_rfl));have q6J:ρ (.tmp 179)=.bool false:=(hρ.at_ 179 21 rfl).trans q6I;exact q9 (w':=W) (by unfold execOp;simp only[q6H,q6J,hc];go_simp) (next (by decide) (by decide) (fun h=>absurd h (by decide)) _ _ hS rfl)
 ·intro i o L vs W j want ho nv qF hg hv hI;obtain⟨_,_,aT⟩:=hI;have qqK:i<23:=(Array.getElem?_eq_some_iff.1 ho).1;rcases i with _|_|_|_|_|_|_|_|_|_|_|_|_|_|_|_|_|_|_|_|_|_|_|i;all_goals (first|omega|skip)
  all_goals simp only[QA,QB,QC,Option.some.injEq]at ho
  all_goals subst ho
  all_goals simp only[Option.some.injEq,Prod.mk.injEq,reduceCtorEq]at hg
  ·obtain⟨rfl,rfl⟩:=hg;exact(hv (aT 4 (qF 4 (by kernel_rfl)) (by decide))).elim
  ·obtain⟨rfl,rfl⟩:=hg;exact(hv (aT 4 (qF 4 (by kernel_rfl)) (by decide))).elim
  ·obtain⟨rfl,rfl⟩:=hg;exact(hv (aT 4 (qF 4 (by kernel_rfl)) (by decide))).elim
  ·obtain⟨rfl,rfl⟩:=hg;exact(hv (aT 4 (qF 4 (by kernel_rfl)) (by decide))).elim
  ·obtain⟨rfl,rfl⟩:=hg;exact(hv (aT 10 (qF 10 (by kernel_rfl)) (by decide))).elim
  ·obtain⟨rfl,rfl⟩:=hg;exact(hv (aT 10 (qF 10 (by kernel_rfl)) (by decide))).elim
  ·obtain⟨rfl,rfl⟩:=hg;exact(hv (aT 10 (qF 10 (by kernel_rfl)) (by decide))).elim
  ·obtain⟨rfl,rfl⟩:=hg;exact(hv (aT 10 (qF 10 (by kernel_rfl)) (by decide))).elim
  ·obtain⟨rfl,rfl⟩:=hg;exact(hv (aT 10 (qF 10 (by kernel_rfl)) (by decide))).elim
  ·obtain⟨rfl,rfl⟩:=hg;exact(hv (aT 10 (qF 10 (by kernel_rfl)) (by decide))).elim
  ·obtain⟨rfl,rfl⟩:=hg;exact(hv (aT 18 (qF 18 (by kernel_rfl)) (by decide))).elim
  ·obtain⟨rfl,rfl⟩:=hg;exact(hv (aT 18 (qF 18 (by kernel_rfl)) (by decide))).elim
  ·obtain⟨rfl,rfl⟩:=hg;exact(hv (aT 18 (qF 18 (by kernel_rfl)) (by decide))).elim
 intro vs WE hI;obtain⟨hS,_,hG⟩:=hI;have HKE:Hid (Ke w.heap.size (fun j=>j=TB∨∃o,AX=some ⟨j,o,none⟩) W34 WE):=hS.1;have HVE:Hid (VW IV WE w.heap.size (fun j=>j=TB∨∃o,AX=some ⟨j,o,none⟩) v pd Q7):=hS.2;have gp:Hid (Below w.heap.size w WE):=qor.out.trans (qjT HKE.out qor.out.size);have g22:vs 22=.bool false:=hG 22 rfl (by decide);simp only[qW,qK,if_true];rw[g22];clear hG hS q1A qor HKE jR T2 HNB rr;generalize vs 0=y0;generalize vs 1=y1;generalize vs 2=y2;generalize vs 3=y3;generalize vs 4=y4;generalize vs 5=y5;generalize vs 6=y6;generalize vs 7=y7;generalize vs 8=y8;generalize vs 9=y9;generalize vs 10=y10;generalize vs 11=y11;generalize vs 12=y12;generalize vs 13=y13;generalize vs 14=y14;generalize vs 15=y15;generalize vs 16=y16;generalize vs 17=y17;generalize vs 18=y18;generalize vs 19=y19;generalize vs 20=y20;generalize vs 21=y21;clear g22;simp only[Act.put,List.setIfInBounds_toArray,List.set_cons_succ,List.set_cons_zero];have qr3:=QH HVE.out;have qwa:=QH gp.out;clear HVE gp;obtain⟨W35,q1B⟩:=QE WE;rw[q1B]at qr3 qwa ⊢;clear q1B;go_wp2_with fail;refine(qbx H qr3.out (l:=[la,zz]) (by intro t m h;rw[h])).mono ?_;rintro e W36 ⟨A36,c36,rfl,ht,_,hb⟩;have q1C:=QH (qr3.out.below H hb);have q1D:=QH (qc qwa.out hb);dsimp only at ht ⊢;have T3:=QH ht;clear ht;clear hb qr3 qwa;go_wp2_with fail;refine(ch.jn _ _ [la,zz] _ W36 T3.out (by decide) vb1.2.1).mono ?_;rintro e W37 ⟨rfl,hb⟩;have zdA:=QH (q1C.out.below H hb);have q6K:=QH (qc q1D.out hb);have T3n:=QH (T3.out.below hb);clear T3;have T3:=QH T3n.out;clear T3n;clear hb q1C q1D;go_wp2_with fail;go_ret;exact⟨rfl,q6K.out⟩
end Go.Proofs.YtdagdllomphidaaGreatDoor.vt
namespace Go.Proofs.YtdagdllomphidaaGreatDoor
open _root_.Go.Proofs.Tryz Go.RowKit
def cZs:List Int:=et.map Int.ofNat
theorem qwb:(prog.globals[0]?).map (·.type)=some 279:=by kernel_rfl
theorem qr4:prog.cellsOf 279=16:=by kernel_rfl
theorem qwc:prog.cellsOf 250=1:=by kernel_rfl
theorem qby{W:World}{name:String}{rest:List (String × DataW Unit)}(h:laidMet prog ((name,Lib.tabData .u32 cZs)::rest) W)(cg:prog.globalNamed name=some 0):xJ W:=by
 have hT:=Lib.tabIs_of_head cg qwb underlying279 underlying250 qwc qr4 h;have hc:∀i,i<16→W.cell? ⟨0,i,none⟩=some (.int .u32 ((et.getD i 0:Nat):Int)):=by
  intro i hi;have:=hT.cell cg i (by simpa[cZs,et]using hi);rw[this];have:∀i:Nat,i<16→cZs.getD i 0=((et.getD i 0:Nat):Int):=by decide
  rw[this i hi]
 exact⟨World.block_lt_of_cell? W _ (hc 0 (by omega)),hc⟩
noncomputable def tU (os:Os):World :=
 { World.holding prog os ⟨#[],#[],[]⟩with heap:=(World.holding prog os ⟨#[],#[],[]⟩).heap.modify 0 fun
     | .cells _ t frozen=>.cells (cZs.map fun z=>Value.int .u32 z).toArray t frozen
     | o=>o }
def q1E:List Int:=[128,191,160,191,128,159,144,191,128,143]++List.replicate 22 0
noncomputable def wY (os:Os):World :=
 { tU os with heap:=((tU os).heap.modify 3 fun
     | .cells _ t frozen=>.cells (q1E.map fun z=>Value.int .u8 z).toArray t frozen
     | o=>o).modify 2 fun
     | .cells _ t frozen=>.cells (Go.Pinned.utf8FirstZ.map fun(z:Nat)=>Value.int .u8 (z:Int)).toArray t frozen
     | o=>o }
end Go.Proofs.YtdagdllomphidaaGreatDoor

/- RvWorks. -/
import Derived.Test.YtdpbdkacngaemaaGreatDoorZK22
import Derived.Test.YtdpbdkacngaemaaGreatDoorZKRvLKnown3
set_option linter.unusedVariables false
set_option linter.unusedSimpArgs false
set_option maxHeartbeats 30000000
set_option maxRecDepth 100000
namespace Go.Proofs.YtdpbdkacngaemaaGreatDoor.rv
open _root_.Go.Proofs.Tryz Go Go.RowKit Go.Sort ib mt st
open vt (jq ju VP DD Ke gN)
theorem qhL(W:World):PtL (W.alloc (.cells #[.int .i64 0,.int .u8 97,.int .i64 1,.int .u8 98,.int .i64 3,.int .u8 99] 79)) (some ⟨W.heap.size,0,none⟩) [(0,97),(1,98),(3,99)]:=by
 intro i hi;have hi2:i<3:=by simpa using hi
 match i,hi2 with
 | 0,_=>exact⟨W.heap.size,0,rfl,by simp,(qh.new W _ _).cell 0,(qh.new W _ _).cell 1,by show zJ 0;unfold zJ;decide⟩
 | 1,_=>exact⟨W.heap.size,0,rfl,by simp,(qh.new W _ _).cell 2,(qh.new W _ _).cell 3,by show zJ 1;unfold zJ;decide⟩
 | 2,_=>exact⟨W.heap.size,0,rfl,by simp,(qh.new W _ _).cell 4,(qh.new W _ _).cell 5,by show zJ 3;unfold zJ;decide⟩
theorem qxL:ud [(0,97),(1,98),(3,99)]=l3:=rfl
theorem q2I:∀x∈l3,zJ x.1:=by
 have h:∀x∈l3,decide (-9223372036854775808≤x.1)&&decide (x.1≤9223372036854775807)=true:=by decide +kernel
 exact fun x hx=>by have:=h x hx;unfold zJ;simpa using this
theorem qxM:∀x∈l3,x.2.length≤1000000:=by decide +kernel
def W3S (IV:jq)(V:World)(B:Nat)(X:Nat→Prop)(vp pd:Nat)(g1:Gd)(n1:Nat)(f1:vt.Tf)(g2:Gd)(n2:Nat)(f2:vt.Tf)(q:Bool)(W:World):Prop :=
 Ke B X V W∧B≤W.heap.size∧if q=true then Wk IV W B X vp pd g2 n2 f2 else Wk IV W B X vp pd g1 n1 f1
section
variable {IV:jq} (H:ju IV) {V W W':World} {B vp pd n1 n2 cq:Nat} {X:Nat→Prop} {g1 g2:Gd} {f1 f2:vt.Tf} {q:Bool} {Aq:Option Addr}
include H
theorem cu (h:W3S IV V B X vp pd g1 n1 f1 g2 n2 f2 q W)(hb:Below W.heap.size W W'):W3S IV V B X vp pd g1 n1 f1 g2 n2 f2 q W':=by
 obtain⟨h1,h2,h3⟩:=h;refine⟨h1.trans (Ke.of_below hb),Nat.le_trans h2 hb.size,?_⟩;cases q
 ·exact Wk.below H h3 hb
 ·exact Wk.below H h3 hb
omit H in
theorem vY {p:Pa}(hk:Ke B X V W)(h:iR V Aq cq p)(hA:∀b o,Aq=some ⟨b,o,none⟩→X b):iR W Aq cq p:=qbS h hk.size fun b o e hb=>hk.block hb (.inl (hA b o e))
theorem qxN(h:W3S IV V B X vp pd (0,0) 0 rv.f1 (1,1) 1 wm false W)(hp:iR V Aq cq qW)(hA:∀b o,Aq=some ⟨b,o,none⟩→X b)(ha:km 4 (0,0) rv.f1 qW=0)(he:vt.zm 4 0 (0,0) (yO qW) qW.zF=0) :
    Calls prog 25 #[pt vp,.agg (jg qW Aq cq)] W fun e w'=>e=.returned (.int .i64 0)∧W3S IV V B X vp pd (0,0) 0 rv.f1 (1,1) 1 wm true w':=by
 obtain⟨h1,h2,h3⟩:=h;refine(nG H h3 h2 Aq cq qW (vY h1 hp hA) (by decide) hA ha he (g':=(1,1)) (n':=1) (f':=wm) (by rw[if_pos (by decide)];exact⟨rfl,rfl,rfl⟩)).mono ?_;rintro e w' ⟨rfl,hw,hk⟩;exact⟨rfl,h1.trans hk,Nat.le_trans h2 hk.size,hw⟩
theorem qxO{c:Int}(h:W3S IV V B X vp pd g1 n1 f1 g1 n1 f1 false W)(hp:iR V Aq cq qW)(hA:∀b o,Aq=some ⟨b,o,none⟩→X b)(ha:km 4 g1 f1 qW=c)(hc:c≠0) :
    Calls prog 25 #[pt vp,.agg (jg qW Aq cq)] W fun e w'=>e=.returned (.int .i64 c)∧W3S IV V B X vp pd g1 n1 f1 g1 n1 f1 true w':=by
 obtain⟨h1,h2,h3⟩:=h;refine(aN H h3 h2 Aq cq qW (vY h1 hp hA) (by decide) hA ha hc).mono ?_;rintro e w' ⟨rfl,hw,hk⟩;exact⟨rfl,h1.trans hk,Nat.le_trans h2 hk.size,hw⟩
end
def cI (vp cq:Nat)(Aq:Option Addr):Nat→Value→World→Prop
 | 0,v,_=>v=.int .i64 0
 | 1,v,_=>v=.bool false
 | 2,v,_=>v=.bool false
 | 3,v,_=>v=.agg #[.int .u64 0,.int .u64 0]
 | 4,v,_=>v=.agg #[.int .u64 0,.int .u64 0]
 | 5,v,_=>v=.bool false
 | 6,v,_=>v=.bool false
 | 7,v,_=>v=.bool false
 | 8,v,_=>v=.agg #[.int .u64 1,.int .u64 1]
 | 9,v,_=>v=.agg #[.int .u64 1,.int .u64 1]
 | 10,v,_=>v=.bool false
 | 11,v,_=>v=.bool false
 | 12,v,_=>v=.bool false
 | 13,v,_=>v=.int .i64 2
 | 14,v,_=>v=.bool false
 | 15,v,_=>v=.bool false
 | 16,v,_=>v=.bool false
 | 17,v,_=>v=pt vp
 | 18,v,_=>v=.agg #[.int .u64 0,.int .u64 0,.int .u64 1,.int .u64 1,.int .i64 2,.int .i64 3,.slice Aq 1 cq]
 | 19,v,_=>v=.int .i64 0
 | 20,v,_=>v=.bool false
 | 21,v,_=>v=.bool false
 | _,_,_=>True
theorem qlD(vp cq:Nat)(Aq:Option Addr)(i:Nat)(x:Value)(w w':World)(hi:i<22)(h:cI vp cq Aq i x w)(_:(fun(_ _:World)=>True) w w'):cI vp cq Aq i x w':=by
 match i,hi,h with
 | 0,_,h | 1,_,h | 2,_,h | 3,_,h | 4,_,h | 5,_,h | 6,_,h | 7,_,h | 8,_,h | 9,_,h | 10,_,h | 11,_,h | 12,_,h | 13,_,h | 14,_,h | 15,_,h | 16,_,h | 17,_,h | 18,_,h | 19,_,h | 20,_,h | 21,_,h=>exact h
 | j+22,hi,_=>exact absurd hi (by omega)
def cy (vp cq:Nat)(Aq:Option Addr):Nat→Value→World→Prop
 | 0,v,_=>v=.int .i64 1
 | 1,v,_=>v=.bool true
 | 2,v,_=>v=.bool true
 | 3,v,_=>v=.agg #[.int .u64 1,.int .u64 1]
 | 4,v,_=>v=.agg #[.int .u64 1,.int .u64 1]
 | 5,v,_=>v=.bool true
 | 6,v,_=>v=.bool true
 | 7,v,_=>v=.bool true
 | 8,v,_=>v=.agg #[.int .u64 0,.int .u64 0]
 | 9,v,_=>v=.agg #[.int .u64 0,.int .u64 0]
 | 10,v,_=>v=.bool true
 | 11,v,_=>v=.bool true
 | 12,v,_=>v=.bool true
 | 13,v,_=>v=.int .i64 0
 | 14,v,_=>v=.bool true
 | 15,v,_=>v=.bool true
 | 16,v,_=>v=.bool true
 | 17,v,_=>v=pt vp
 | 18,v,_=>v=.agg #[.int .u64 0,.int .u64 0,.int .u64 1,.int .u64 1,.int .i64 2,.int .i64 3,.slice Aq 1 cq]
 | 19,v,_=>v=.int .i64 9
 | 20,v,_=>v=.bool true
 | 21,v,_=>v=.bool true
 | 22,v,_=>v=.bool true
 | _,_,_=>True
theorem qlE(vp cq:Nat)(Aq:Option Addr)(i:Nat)(x:Value)(w w':World)(hi:i<23)(h:cy vp cq Aq i x w)(_:(fun(_ _:World)=>True) w w'):cy vp cq Aq i x w':=by
 match i,hi,h with
 | 0,_,h | 1,_,h | 2,_,h | 3,_,h | 4,_,h | 5,_,h | 6,_,h | 7,_,h | 8,_,h | 9,_,h | 10,_,h | 11,_,h | 12,_,h | 13,_,h | 14,_,h | 15,_,h | 16,_,h | 17,_,h | 18,_,h | 19,_,h | 20,_,h | 21,_,h | 22,_,h=>exact h
 | j+23,hi,_=>exact absurd hi (by omega)
theorem qhM{IV:jq}(H:ju IV)(w:World)(ht:xK w):Calls prog 32 #[] w (qin w):=by
 have oa:Hid (gN<w.heap.size):=vt.xx ht;have HMD:=QH (qbR H 4 (by decide) (by decide) w ht);clear ht;go_enter func32,ntmps32;go_wp2_with fail;refine HMD.out.mono ?_;rintro e W1 ⟨vp,pd,t,d,o1,o2,rfl,hv,hj,hr,hf,hb,ho⟩;have HW1:Hid (Wk IV W1 w.heap.size (fun _=>False) vp pd (0,0) 0 wm):=⟨t,d,_,⟨o1,o2,hv,fun j hj=>⟨ho j hj,id⟩,fun j h=>h.elim,oa.out,id⟩,hr,hj,hf,⟨rfl,rfl,rfl,rfl⟩⟩;have qU:=QH hb;clear hv hj hr hf hb ho HMD;have hb2:=(Below.refl W1.heap.size W1).alloc (Nat.le_refl _) (.cells #[.int .i64 0,.int .u8 97,.int .i64 1,.int .u8 98,.int .i64 3,.int .u8 99] 79);have hpl:=qhL W1;obtain⟨W2,hW2⟩:=QE (W1.alloc (.cells #[.int .i64 0,.int .u8 97,.int .i64 1,.int .u8 98,.int .i64 3,.int .u8 99] 79));rw[hW2]at hb2 hpl;obtain⟨gl,jQ⟩:=QE W1.heap.size;rw[jQ]at hpl;have HCG:=QH (xQ (some ⟨gl,0,none⟩) 3 [(0,97),(1,98),(3,99)] W2 hpl (by decide));rw[qxL]at HCG;have qxQ:=QH hb2;have HW2:=QH hW2;have HGL:=QH jQ;clear hb2 hpl hW2 jQ;go_upto_region 4 with fail;go_wp2_with fail;try rw[HW2.out]
 try rw[HGL.out]
 refine HCG.out.mono ?_;rintro e W3 ⟨vl,rfl,dw,hb⟩;obtain⟨Al,cl,rfl,hcl,-,rD⟩:=ch.pg.xy.ij dw q2I;rw[show l3.length=3 from rfl]at rD ⊢;have yK:=QH hcl;have HCP:=QH rD;have qxR:=QH (qc qxQ.out hb);clear dw hcl rD hb HCG HW2 HGL qxQ;go_wp2_with fail;refine(qF 0 0 W3).mono ?_;rintro e W4 ⟨rfl,hb⟩;have qxS:=QH (qc qxR.out hb)
 replace yK:=QH (yK.out.below hb)
 clear qxR hb;go_wp2_with fail;refine(qF 1 1 W4).mono ?_;rintro e W5 ⟨rfl,hb⟩;have qhu:=QH (qc qxS.out hb)
 replace yK:=QH (yK.out.below hb)
 clear qxS hb;have dX:=QH (st.iN (0,0) (1,1) Al cl l3 0 W5 ⟨by decide,by decide⟩ ⟨by decide,by decide⟩ yK.out (by decide) HCP.out.1 HCP.out.2 qxM (by unfold zJ;decide));rw[qsI,show l3.length=3 from rfl]at dX;go_wp2_with fail;refine dX.out.mono ?_;rintro e W6 ⟨Ap,cp,rfl,hp,hn,hb⟩;dsimp only at hp ⊢;rw[show jg pW Ap cp = #[.int .u64 0,.int .u64 0,.int .u64 1,.int .u64 1,.int .i64 0,.int .i64 3,.slice Ap 2 cp]from rfl];have fZ:=QH hp;have hs2:=qhu.out.size;have qsM:=QH (qc qhu.out hb)
 replace yK:=QH (yK.out.below hb)
 clear qhu hb hp dX;have cb:=(Below.refl W6.heap.size W6).alloc (Nat.le_refl _) (.cells #[.int .u64 0,.int .u64 0,.int .u64 1,.int .u64 1,.int .i64 0,.int .i64 3,.slice Ap 2 cp] 41);have kb:=qh.new W6 41 #[.int .u64 0,.int .u64 0,.int .u64 1,.int .u64 1,.int .i64 0,.int .i64 3,.slice Ap 2 cp];obtain⟨W7,hWn⟩:=QE (W6.alloc (.cells #[.int .u64 0,.int .u64 0,.int .u64 1,.int .u64 1,.int .i64 0,.int .i64 3,.slice Ap 2 cp] 41));rw[hWn]at cb kb;obtain⟨g4,hg⟩:=QE W6.heap.size;have HG4:Hid (W1.heap.size≤g4):=by have:=qsM.out.size;unfold Hid;omega
 rw[hg]at kb;have HN4:Hid (∀b o,Ap=some ⟨b,o,none⟩→W1.heap.size≤b∧b<g4):=fun b o e=>by
  have h1:=hn b o e;omega
 clear hn hs2;have B4:=QH kb
 replace fZ:=QH (fZ.out.below cb)
 have qxT:=QH (qc qsM.out cb)
 replace yK:=QH (yK.out.below cb)
 have HWn:=QH hWn;have HGn:=QH hg;clear qsM cb kb hWn hg;go_upto_region 6 with fail;try rw[HWn.out]
 try rw[HGn.out]
 clear HWn HGn;go_wp2_with fail;refine(qF 0 0 W7).mono ?_;rintro e W8 ⟨rfl,hb⟩;have qhv:=QH (qc qxT.out hb)
 replace yK:=QH (yK.out.below hb)
 replace fZ:=QH (fZ.out.below hb)
 replace B4:=QH (B4.out.below hb)
 clear qxT hb;go_wp2_with fail;refine(qF 1 1 W8).mono ?_;rintro e W9 ⟨rfl,hb⟩;have qsN:=QH (qc qhv.out hb)
 replace yK:=QH (yK.out.below hb)
 replace fZ:=QH (fZ.out.below hb)
 replace B4:=QH (B4.out.below hb)
 clear qhv hb;have dX:=QH (st.iN (0,0) (1,1) Al cl l3 2 W9 ⟨by decide,by decide⟩ ⟨by decide,by decide⟩ yK.out (by decide) HCP.out.1 HCP.out.2 qxM (by unfold zJ;decide));rw[qsJ,show l3.length=3 from rfl]at dX;go_wp2_with fail;refine dX.out.mono ?_;rintro e W10 ⟨Aq,cq,rfl,hp,hn,hb⟩;dsimp only at hp ⊢;rw[show jg qW Aq cq = #[.int .u64 0,.int .u64 0,.int .u64 1,.int .u64 1,.int .i64 2,.int .i64 3,.slice Aq 1 cq]from rfl];have HP6:=QH hp;have hs2:=qsN.out.size;have qlF:=QH (qc qsN.out hb)
 replace yK:=QH (yK.out.below hb)
 replace fZ:=QH (fZ.out.below hb)
 replace B4:=QH (B4.out.below hb)
 clear qsN hb hp dX;have cb:=(Below.refl W10.heap.size W10).alloc (Nat.le_refl _) (.cells #[.int .u64 0,.int .u64 0,.int .u64 1,.int .u64 1,.int .i64 2,.int .i64 3,.slice Aq 1 cq] 41);have kb:=qh.new W10 41 #[.int .u64 0,.int .u64 0,.int .u64 1,.int .u64 1,.int .i64 2,.int .i64 3,.slice Aq 1 cq];obtain⟨W11,hWn⟩:=QE (W10.alloc (.cells #[.int .u64 0,.int .u64 0,.int .u64 1,.int .u64 1,.int .i64 2,.int .i64 3,.slice Aq 1 cq] 41));rw[hWn]at cb kb;obtain⟨g6,hg⟩:=QE W10.heap.size;have HG6:Hid (W1.heap.size≤g6):=by have:=qlF.out.size;unfold Hid;omega
 rw[hg]at kb;have HN6:Hid (∀b o,Aq=some ⟨b,o,none⟩→W1.heap.size≤b∧b<g6):=fun b o e=>by
  have h1:=hn b o e;omega
 clear hn hs2;have B6:=QH kb
 replace HP6:=QH (HP6.out.below cb)
 have qbW:=QH (qc qlF.out cb)
 replace yK:=QH (yK.out.below cb)
 replace fZ:=QH (fZ.out.below cb)
 replace B4:=QH (B4.out.below cb)
 have HWn:=QH hWn;have HGn:=QH hg;clear qlF cb kb hWn hg;go_upto_region 7 with fail;try rw[HWn.out]
 try rw[HGn.out]
 clear HWn HGn;obtain⟨X0,hX⟩:∃X0:Nat→Prop,X0=fun j=>W1.heap.size≤j∧j<W11.heap.size:=⟨_,rfl⟩;have HW:Hid (Wk IV W11 w.heap.size X0 vp pd (0,0) 0 wm):=by
  unfold Hid;rw[hX];exact Wk.more H HW1.out qbW.out (fun j hj=>.inr hj)
 have tX:Hid (X0 g4∧X0 g6∧(∀b o,Ap=some ⟨b,o,none⟩→X0 b)∧∀b o,Aq=some ⟨b,o,none⟩→X0 b):=by
  unfold Hid;rw[hX];have h1:=qbW.out.size;have h4:=B4.out.lt;have h6:=B6.out.lt;have hp:=fun(b o:Nat) (e:Ap=some ⟨b,o,none⟩)=>HN4.out b o e;have hq:=fun(b o:Nat) (e:Aq=some ⟨b,o,none⟩)=>HN6.out b o e;exact⟨⟨HG4.out,h4⟩,⟨HG6.out,h6⟩,fun b o e=>⟨(hp b o e).1,by have:=(hp b o e).2;omega⟩,fun b o e=>⟨(hq b o e).1,by have:=(hq b o e).2;omega⟩⟩
 have yX:Hid (w.heap.size≤W11.heap.size):=Nat.le_trans qU.out.size qbW.out.size;have yc:Hid (Below w.heap.size w W11):=qU.out.trans (qbW.out.mono qU.out.size);clear hX HN4 HG4 HG6 HW1 qU yK HCP qbW;have xh:=B4.out;have x0:=xh.cell 0;have x1:=xh.cell 1;have x2:=xh.cell 2;have x3:=xh.cell 3;have x4:=xh.cell 4;have x5:=xh.cell 5;have x6:=xh.cell 6;have xl:=xh.lt;simp only[QA,QB,QC]at x0 x1 x2 x3 x4 x5 x6;clear xh;have yh:=B6.out;have y0:=yh.cell 0;have y1:=yh.cell 1;have y2:=yh.cell 2;have y3:=yh.cell 3;have y4:=yh.cell 4;have y5:=yh.cell 5;have y6:=yh.cell 6;have yl:=yh.lt;simp only[QA,QB,QC]at y0 y1 y2 y3 y4 y5 y6;clear yh;have xY:=QH (aN H HW.out yX.out Aq cq qW HP6.out (by decide) tX.out.2.2.2 q2w (by decide));rw[show jg qW Aq cq = #[.int .u64 0,.int .u64 0,.int .u64 1,.int .u64 1,.int .i64 2,.int .i64 3,.slice Aq 1 cq]from rfl]at xY;go_wp2_with fail;refine xY.out.mono ?_;rintro e W12 ⟨rfl,hw,hk⟩
 replace HW:=QH hw
 replace B4:=QH (B4.out.of_block (hk.block B4.out.lt (.inl tX.out.1)))
 replace B6:=QH (B6.out.of_block (hk.block B6.out.lt (.inl tX.out.2.1)))
 replace fZ:=QH (vY hk fZ.out tX.out.2.2.1)
 replace HP6:=QH (vY hk HP6.out tX.out.2.2.2)
 replace yc:=QH (yc.out.trans (hk.below yX.out))
 replace yX:=QH (Nat.le_trans yX.out hk.size)
 clear hw hk xY x0 x1 x2 x3 x4 x5 x6 xl y0 y1 y2 y3 y4 y5 y6 yl;have xh:=B4.out;have x0:=xh.cell 0;have x1:=xh.cell 1;have x2:=xh.cell 2;have x3:=xh.cell 3;have x4:=xh.cell 4;have x5:=xh.cell 5;have x6:=xh.cell 6;have xl:=xh.lt;simp only[QA,QB,QC]at x0 x1 x2 x3 x4 x5 x6;clear xh;have yh:=B6.out;have y0:=yh.cell 0;have y1:=yh.cell 1;have y2:=yh.cell 2;have y3:=yh.cell 3;have y4:=yh.cell 4;have y5:=yh.cell 5;have y6:=yh.cell 6;have yl:=yh.lt;simp only[QA,QB,QC]at y0 y1 y2 y3 y4 y5 y6;clear yh;have xY:=QH (nG H HW.out yX.out Ap cp pW fZ.out (by decide) tX.out.2.2.1 q2x q21 (g':=(0,0)) (n':=0) (f':=f1) (by rw[if_neg (by decide)];exact⟨rfl,rfl,rfl⟩));rw[show jg pW Ap cp = #[.int .u64 0,.int .u64 0,.int .u64 1,.int .u64 1,.int .i64 0,.int .i64 3,.slice Ap 2 cp]from rfl]at xY;go_wp2_with fail;refine xY.out.mono ?_;rintro e W13 ⟨rfl,hw,hk⟩
 replace HW:=QH hw
 replace B4:=QH (B4.out.of_block (hk.block B4.out.lt (.inl tX.out.1)))
 replace B6:=QH (B6.out.of_block (hk.block B6.out.lt (.inl tX.out.2.1)))
 replace fZ:=QH (vY hk fZ.out tX.out.2.2.1)
 replace HP6:=QH (vY hk HP6.out tX.out.2.2.2)
 replace yc:=QH (yc.out.trans (hk.below yX.out))
 replace yX:=QH (Nat.le_trans yX.out hk.size)
 clear hw hk xY x0 x1 x2 x3 x4 x5 x6 xl y0 y1 y2 y3 y4 y5 y6 yl;have xh:=B4.out;have x0:=xh.cell 0;have x1:=xh.cell 1;have x2:=xh.cell 2;have x3:=xh.cell 3;have x4:=xh.cell 4;have x5:=xh.cell 5;have x6:=xh.cell 6;have xl:=xh.lt;simp only[QA,QB,QC]at x0 x1 x2 x3 x4 x5 x6;clear xh;have yh:=B6.out;have y0:=yh.cell 0;have y1:=yh.cell 1;have y2:=yh.cell 2;have y3:=yh.cell 3;have y4:=yh.cell 4;have y5:=yh.cell 5;have y6:=yh.cell 6;have yl:=yh.lt;simp only[QA,QB,QC]at y0 y1 y2 y3 y4 y5 y6;clear yh;have xY:=QH (aN H HW.out yX.out Ap cp pW fZ.out (by decide) tX.out.2.2.1 q2y (by decide));rw[show jg pW Ap cp = #[.int .u64 0,.int .u64 0,.int .u64 1,.int .u64 1,.int .i64 0,.int .i64 3,.slice Ap 2 cp]from rfl]at xY;go_wp2_with fail;refine xY.out.mono ?_;rintro e W14 ⟨rfl,hw,hk⟩
 replace HW:=QH hw
 replace B4:=QH (B4.out.of_block (hk.block B4.out.lt (.inl tX.out.1)))
 replace B6:=QH (B6.out.of_block (hk.block B6.out.lt (.inl tX.out.2.1)))
 replace fZ:=QH (vY hk fZ.out tX.out.2.2.1)
 replace HP6:=QH (vY hk HP6.out tX.out.2.2.2)
 replace yc:=QH (yc.out.trans (hk.below yX.out))
 replace yX:=QH (Nat.le_trans yX.out hk.size)
 clear hw hk xY x0 x1 x2 x3 x4 x5 x6 xl y0 y1 y2 y3 y4 y5 y6 yl;have xh:=B4.out;have x0:=xh.cell 0;have x1:=xh.cell 1;have x2:=xh.cell 2;have x3:=xh.cell 3;have x4:=xh.cell 4;have x5:=xh.cell 5;have x6:=xh.cell 6;have xl:=xh.lt;simp only[QA,QB,QC]at x0 x1 x2 x3 x4 x5 x6;clear xh;have yh:=B6.out;have y0:=yh.cell 0;have y1:=yh.cell 1;have y2:=yh.cell 2;have y3:=yh.cell 3;have y4:=yh.cell 4;have y5:=yh.cell 5;have y6:=yh.cell 6;have yl:=yh.lt;simp only[QA,QB,QC]at y0 y1 y2 y3 y4 y5 y6;clear yh;clear x0 x1 x2 x3 x4 x5 x6 xl;clear y0 y1 y2 y3 y4 y5 y6 yl;clear fZ B4;have HAS:=QH (qfo H HW.out (by decide));rw[show nE 0 (0,0) f1.target f1.next=.tuple #[.int .i64 0,.agg #[.int .u64 0,.int .u64 0],.agg #[.int .u64 1,.int .u64 1],.int .i64 2]from rfl]at HAS;go_wp2_with fail;refine HAS.out.mono ?_;rintro e W15 ⟨rfl,hb⟩;dsimp only
 replace HW:=QH (Wk.below H HW.out hb)
 replace B6:=QH (B6.out.below hb)
 replace HP6:=QH (HP6.out.below hb)
 have qlG:=QH (qc yc.out hb);clear yc yX HAS hb;have cb1:=(Below.refl W15.heap.size W15).alloc (Nat.le_refl _) (.cells #[.int .u64 0,.int .u64 0] 38);have kb1:=qh.new W15 38 #[.int .u64 0,.int .u64 0];obtain⟨W16,qoH⟩:=QE (W15.alloc (.cells #[.int .u64 0,.int .u64 0] 38));have qxV:W16.heap.size=W15.heap.size+1:=by rw[← qoH];simp
 rw[qoH]at cb1 kb1;have cb2:=(Below.refl W16.heap.size W16).alloc (Nat.le_refl _) (.cells #[.int .u64 1,.int .u64 1] 38);have kb2:=qh.new W16 38 #[.int .u64 1,.int .u64 1];obtain⟨V0,hV0⟩:=QE (W16.alloc (.cells #[.int .u64 1,.int .u64 1] 38));rw[hV0]at cb2 kb2;rw[qxV]at kb2;obtain⟨g9,hg9⟩:=QE W15.heap.size;rw[hg9]at kb1 kb2;obtain⟨g10,qkO⟩:=QE (g9+1);rw[qkO]at kb2;have tB:=QH (qc cb1 cb2);have B9:=QH (kb1.below cb2);have B10:=QH kb2;have HG9:Hid (W15.heap.size≤g9∧W15.heap.size≤g10∧g9≠g10∧g10≠g6∧g9≠g6):=by have:=B6.out.lt;unfold Hid;omega
 have qxW:=QH qoH;have fz:=QH hV0;have Hg9:=QH hg9;have qxX:=QH qkO;clear cb1 kb1 cb2 kb2 qxV qoH hV0 hg9 qkO;have HQN:Hid (∀b o,Aq=some ⟨b,o,none⟩→b≠g9∧b≠g10):=fun b o e=>by
  have h1:=HN6.out b o e;have h2:=B6.out.lt;have h3:=HG9.out;omega
 have eU:Hid (w.heap.size≤g9∧w.heap.size≤g10):=by have h1:=qlG.out.size;have h3:=HG9.out;unfold Hid;omega
 obtain⟨X,hX⟩:∃X:Nat→Prop,X=fun j=>X0 j∨j=g9∨j=g10:=⟨_,rfl⟩
 replace HW:=QH (Wk.more H HW.out tB.out (Y:=X) (fun j hj=>by
  rw[hX]at hj;rcases hj with h|h|h
  ·exact .inl h
  ·exact .inr ⟨by have:=HG9.out;omega,by rw[h];exact B9.out.lt⟩
  ·exact .inr ⟨by have:=HG9.out;omega,by rw[h];exact B10.out.lt⟩))
 replace B6:=QH (B6.out.below tB.out)
 have HPQ:=QH (HP6.out.below tB.out);have qoJ:=QH (qc qlG.out tB.out);have HX:Hid (X g9∧X g10∧X g6∧∀b o,Aq=some ⟨b,o,none⟩→X b):=by
  unfold Hid;rw[hX];exact⟨.inr (.inl rfl),.inr (.inr rfl),.inl tX.out.2.1,fun b o e=>.inl (tX.out.2.2.2 b o e)⟩
 clear HP6 qlG tB tX hX HN6;have HS0:Hid (W3S IV V0 w.heap.size X vp pd (0,0) 0 f1 (1,1) 1 wm false V0.drew):=⟨Ke.of_below (Below.refl _ _).drew,qoJ.out.size,Wk.below H HW.out (Below.refl _ _).drew⟩;clear HW;go_upto_region 10 with fail;try rw[qxW.out]
 try rw[fz.out]
 try rw[Hg9.out]
 try rw[qxX.out]
 clear qxW fz Hg9 qxX;refine xX (by kernel_rfl) [68,69,70,71,72,73,74,75,76,77,78,79,80,81,82,83,84,85,86,87,88,89] (by kernel_rfl) (fun L vs W=>W3S IV V0 w.heap.size X vp pd (0,0) 0 f1 (1,1) 1 wm (L 19) W∧∀i,L i=true→i<22→cI vp cq Aq i (vs i) W) ⟨HS0.out,fun i hi=>by cases hi⟩ ?_ ?_ ?_
 ·intro i o L vs ρ W ho cE qf hρ hgd hI;obtain⟨hS,cS⟩:=hI;have hG:∀j,L j=true→cI vp cq Aq j (vs j) W:=fun j hj=>by
   by_cases uj:j<22
   ·exact cS j hj uj
   ·match j,uj with
    | j+22,_=>exact trivial
  have rM:i<22:=(Array.getElem?_eq_some_iff.1 ho).1;have hc:=hρ.const;have hfn:=hρ.fn;have next:∀v W',(fun(_ _:World)=>True) W W'→W3S IV V0 w.heap.size X vp pd (0,0) 0 f1 (1,1) 1 wm (qN L i 19) W'→cI vp cq Aq i v W'→W3S IV V0 w.heap.size X vp pd (0,0) 0 f1 (1,1) 1 wm (qN L i 19) W'∧∀j,qN L i j=true→j<22→cI vp cq Aq j (zZ vs i v j) W':=fun v W' h1 h0 h2=>by
   refine⟨h0,fun j hj uj=>?_⟩;by_cases uR:j=i
   ·subst uR;simpa[zZ]using h2
   ·simp only[qN,if_neg uR]at hj;simpa[zZ,uR]using qlD vp cq Aq j _ W W' uj (cS j hj uj) h1
  have k9:=B9.out.of_block (hS.1.block B9.out.lt (.inl HX.out.1));have uO:=B10.out.of_block (hS.1.block B10.out.lt (.inl HX.out.2.1));have k6:=B6.out.of_block (hS.1.block B6.out.lt (.inl HX.out.2.2.1));have y0:=k9.cell 0;have y1:=k9.cell 1;have yl:=k9.lt;have z0:=uO.cell 0;have z1:=uO.cell 1;have zl:=uO.lt;have x0:=k6.cell 0;have x1:=k6.cell 1;have x2:=k6.cell 2;have x3:=k6.cell 3;have x4:=k6.cell 4;have x5:=k6.cell 5;have x6:=k6.cell 6;have xl:=k6.lt;simp only[QA,QB,QC]at y0 y1 z0 z1 x0 x1 x2 x3 x4 x5 x6;rcases i with _|_|_|_|_|_|_|_|_|_|_|_|_|_|_|_|_|_|_|_|_|_|i;all_goals (first|omega|skip)
  all_goals simp only[QA,QB,QC,Option.some.injEq]at ho
  all_goals subst ho
  ·have o8:ρ (.tmp 8)=.int .i64 0:=hρ.out 8 rfl;exact qa (w':=W) (by unfold execOp;simp only[o8,hc];go_simp) (next _ _ trivial (by simpa only[qN,Nat.reduceEqDiff,if_false,if_true,reduceIte]using hS) rfl)
  ·have g68:cI vp cq Aq 0 (vs 0) W:=hG 0 (qf 0 (by kernel_rfl));have s68:ρ (.tmp 68)=.int .i64 0:=(hρ.at_ 68 0 rfl).trans g68;exact qa (w':=W) (by unfold execOp;simp only[s68,hc];go_simp) (next _ _ trivial (by simpa only[qN,Nat.reduceEqDiff,if_false,if_true,reduceIte]using hS) rfl)
  ·have g69:cI vp cq Aq 1 (vs 1) W:=hG 1 (qf 1 (by kernel_rfl));have s69:ρ (.tmp 69)=.bool false:=(hρ.at_ 69 1 rfl).trans g69;exact qa (w':=W) (by unfold execOp;simp only[s69,hc];go_simp) (next _ _ trivial (by simpa only[qN,Nat.reduceEqDiff,if_false,if_true,reduceIte]using hS) rfl)
  ·have o9:ρ (.tmp 9)=pt g9:=hρ.out 9 rfl;exact qa (w':=W) (by unfold execOp;simp only[o9,hc];go_simp) (next _ _ trivial (by simpa only[qN,Nat.reduceEqDiff,if_false,if_true,reduceIte]using hS) rfl)
  ·refine qi (f:=40) (args:=#[.int .u64 0,.int .u64 0]) (w':=W) (by unfold execOp;simp only[hfn,];go_simp) (((qF 0 0 W)).mono ?_);rintro x W' ⟨rfl,hb'⟩;exact⟨_,rfl,next _ _ trivial (by have h0:=cu H hS hb';simpa only[qN,Nat.reduceEqDiff,if_false,if_true,reduceIte]using h0) rfl⟩
  ·have g71:cI vp cq Aq 3 (vs 3) W:=hG 3 (qf 3 (by kernel_rfl));have s71:ρ (.tmp 71)=.agg #[.int .u64 0,.int .u64 0]:=(hρ.at_ 71 3 rfl).trans g71;have g72:cI vp cq Aq 4 (vs 4) W:=hG 4 (qf 4 (by kernel_rfl));have s72:ρ (.tmp 72)=.agg #[.int .u64 0,.int .u64 0]:=(hρ.at_ 72 4 rfl).trans g72;exact qa (w':=W) (by unfold execOp;simp only[s71,s72,hc];go_simp) (next _ _ trivial (by simpa only[qN,Nat.reduceEqDiff,if_false,if_true,reduceIte]using hS) rfl)
  ·have g70:cI vp cq Aq 2 (vs 2) W:=hG 2 (qf 2 (by kernel_rfl));have s70:ρ (.tmp 70)=.bool false:=(hρ.at_ 70 2 rfl).trans g70;have g73:cI vp cq Aq 5 (vs 5) W:=hG 5 (qf 5 (by kernel_rfl));have s73:ρ (.tmp 73)=.bool false:=(hρ.at_ 73 5 rfl).trans g73;exact qa (w':=W) (by unfold execOp;simp only[s70,s73,hc];go_simp) (next _ _ trivial (by simpa only[qN,Nat.reduceEqDiff,if_false,if_true,reduceIte]using hS) rfl)
  ·have g74:cI vp cq Aq 6 (vs 6) W:=hG 6 (qf 6 (by kernel_rfl));have s74:ρ (.tmp 74)=.bool false:=(hρ.at_ 74 6 rfl).trans g74;exact qa (w':=W) (by unfold execOp;simp only[s74,hc];go_simp) (next _ _ trivial (by simpa only[qN,Nat.reduceEqDiff,if_false,if_true,reduceIte]using hS) rfl)
  ·have o10:ρ (.tmp 10)=pt g10:=hρ.out 10 rfl;exact qa (w':=W) (by unfold execOp;simp only[o10,hc];go_simp) (next _ _ trivial (by simpa only[qN,Nat.reduceEqDiff,if_false,if_true,reduceIte]using hS) rfl)
  ·refine qi (f:=40) (args:=#[.int .u64 1,.int .u64 1]) (w':=W) (by unfold execOp;simp only[hfn,];go_simp) (((qF 1 1 W)).mono ?_);rintro x W' ⟨rfl,hb'⟩;exact⟨_,rfl,next _ _ trivial (by have h0:=cu H hS hb';simpa only[qN,Nat.reduceEqDiff,if_false,if_true,reduceIte]using h0) rfl⟩
  ·have g76:cI vp cq Aq 8 (vs 8) W:=hG 8 (qf 8 (by kernel_rfl));have s76:ρ (.tmp 76)=.agg #[.int .u64 1,.int .u64 1]:=(hρ.at_ 76 8 rfl).trans g76;have g77:cI vp cq Aq 9 (vs 9) W:=hG 9 (qf 9 (by kernel_rfl));have s77:ρ (.tmp 77)=.agg #[.int .u64 1,.int .u64 1]:=(hρ.at_ 77 9 rfl).trans g77;exact qa (w':=W) (by unfold execOp;simp only[s76,s77,hc];go_simp) (next _ _ trivial (by simpa only[qN,Nat.reduceEqDiff,if_false,if_true,reduceIte]using hS) rfl)
  ·have g75:cI vp cq Aq 7 (vs 7) W:=hG 7 (qf 7 (by kernel_rfl));have s75:ρ (.tmp 75)=.bool false:=(hρ.at_ 75 7 rfl).trans g75;have g78:cI vp cq Aq 10 (vs 10) W:=hG 10 (qf 10 (by kernel_rfl));have s78:ρ (.tmp 78)=.bool false:=(hρ.at_ 78 10 rfl).trans g78;exact qa (w':=W) (by unfold execOp;simp only[s75,s78,hc];go_simp) (next _ _ trivial (by simpa only[qN,Nat.reduceEqDiff,if_false,if_true,reduceIte]using hS) rfl)
  ·have g79:cI vp cq Aq 11 (vs 11) W:=hG 11 (qf 11 (by kernel_rfl));have s79:ρ (.tmp 79)=.bool false:=(hρ.at_ 79 11 rfl).trans g79;exact qa (w':=W) (by unfold execOp;simp only[s79,hc];go_simp) (next _ _ trivial (by simpa only[qN,Nat.reduceEqDiff,if_false,if_true,reduceIte]using hS) rfl)
  ·have o11:ρ (.tmp 11)=.int .i64 2:=hρ.out 11 rfl;exact qa (w':=W) (by unfold execOp;simp only[o11,hc];go_simp) (next _ _ trivial (by simpa only[qN,Nat.reduceEqDiff,if_false,if_true,reduceIte]using hS) rfl)
  ·have g81:cI vp cq Aq 13 (vs 13) W:=hG 13 (qf 13 (by kernel_rfl));have s81:ρ (.tmp 81)=.int .i64 2:=(hρ.at_ 81 13 rfl).trans g81;exact qa (w':=W) (by unfold execOp;simp only[s81,hc];go_simp) (next _ _ trivial (by simpa only[qN,Nat.reduceEqDiff,if_false,if_true,reduceIte]using hS) rfl)
  ·have g80:cI vp cq Aq 12 (vs 12) W:=hG 12 (qf 12 (by kernel_rfl));have s80:ρ (.tmp 80)=.bool false:=(hρ.at_ 80 12 rfl).trans g80;have g82:cI vp cq Aq 14 (vs 14) W:=hG 14 (qf 14 (by kernel_rfl));have s82:ρ (.tmp 82)=.bool false:=(hρ.at_ 82 14 rfl).trans g82;exact qa (w':=W) (by unfold execOp;simp only[s80,s82,hc];go_simp) (next _ _ trivial (by simpa only[qN,Nat.reduceEqDiff,if_false,if_true,reduceIte]using hS) rfl)
  ·have g83:cI vp cq Aq 15 (vs 15) W:=hG 15 (qf 15 (by kernel_rfl));have s83:ρ (.tmp 83)=.bool false:=(hρ.at_ 83 15 rfl).trans g83;exact qa (w':=W) (by unfold execOp;simp only[s83,hc];go_simp) (next _ _ trivial (by simpa only[qN,Nat.reduceEqDiff,if_false,if_true,reduceIte]using hS) rfl)
  ·have o2:ρ (.tmp 2)=pt vp:=hρ.out 2 rfl;exact qa (w':=W) (by unfold execOp;simp only[o2,hc];go_simp) (next _ _ trivial (by simpa only[qN,Nat.reduceEqDiff,if_false,if_true,reduceIte]using hS) rfl)
  ·have o6:ρ (.tmp 6)=pt g6:=hρ.out 6 rfl;exact qa (w':=W) (by unfold execOp;simp only[o6,hc];go_simp) (next _ _ trivial (by simpa only[qN,Nat.reduceEqDiff,if_false,if_true,reduceIte]using hS) rfl)
  ·have g85:cI vp cq Aq 17 (vs 17) W:=hG 17 (qf 17 (by kernel_rfl));have s85:ρ (.tmp 85)=pt vp:=(hρ.at_ 85 17 rfl).trans g85;have g86:cI vp cq Aq 18 (vs 18) W:=hG 18 (qf 18 (by kernel_rfl));have s86:ρ (.tmp 86)=.agg #[.int .u64 0,.int .u64 0,.int .u64 1,.int .u64 1,.int .i64 2,.int .i64 3,.slice Aq 1 cq]:=(hρ.at_ 86 18 rfl).trans g86;rw[cE]at hS;refine qi (f:=25) (args:=#[pt vp,.agg #[.int .u64 0,.int .u64 0,.int .u64 1,.int .u64 1,.int .i64 2,.int .i64 3,.slice Aq 1 cq]]) (w':=W) (by unfold execOp;simp only[hfn,s85,s86];go_simp) ((qxN H hS HPQ.out HX.out.2.2.2 q2z q22).mono ?_);rintro x W' ⟨rfl,h1⟩;exact⟨_,rfl,next _ _ trivial (by simpa only[qN,if_true,reduceIte]using h1) rfl⟩
  ·have g87:cI vp cq Aq 19 (vs 19) W:=hG 19 (qf 19 (by kernel_rfl));have s87:ρ (.tmp 87)=.int .i64 0:=(hρ.at_ 87 19 rfl).trans g87;exact qa (w':=W) (by unfold execOp;simp only[s87,hc];go_simp) (next _ _ trivial (by simpa only[qN,Nat.reduceEqDiff,if_false,if_true,reduceIte]using hS) rfl)
  ·have g84:cI vp cq Aq 16 (vs 16) W:=hG 16 (qf 16 (by kernel_rfl));have s84:ρ (.tmp 84)=.bool false:=(hρ.at_ 84 16 rfl).trans g84;have g88:cI vp cq Aq 20 (vs 20) W:=hG 20 (qf 20 (by kernel_rfl));have s88:ρ (.tmp 88)=.bool false:=(hρ.at_ 88 20 rfl).trans g88;exact qa (w':=W) (by unfold execOp;simp only[s84,s88,hc];go_simp) (next _ _ trivial (by simpa only[qN,Nat.reduceEqDiff,if_false,if_true,reduceIte]using hS) rfl)
 ·intro i o L vs W j want ho cE qf hg hv hI;obtain⟨hS,cS⟩:=hI;have hG:∀j,L j=true→cI vp cq Aq j (vs j) W:=fun j hj=>by
   by_cases uj:j<22
   ·exact cS j hj uj
   ·match j,uj with
    | j+22,_=>exact trivial
  have rM:i<22:=(Array.getElem?_eq_some_iff.1 ho).1;rcases i with _|_|_|_|_|_|_|_|_|_|_|_|_|_|_|_|_|_|_|_|_|_|i;all_goals (first|omega|skip)
  all_goals simp only[QA,QB,QC,Option.some.injEq]at ho
  all_goals subst ho
  all_goals simp only[reduceCtorEq,Option.some.injEq,Prod.mk.injEq]at hg
  ·obtain⟨rfl,rfl⟩:=hg;exact(hv (hG 2 (qf 2 (by kernel_rfl)))).elim
  ·obtain⟨rfl,rfl⟩:=hg;exact(hv (hG 2 (qf 2 (by kernel_rfl)))).elim
  ·obtain⟨rfl,rfl⟩:=hg;exact(hv (hG 2 (qf 2 (by kernel_rfl)))).elim
  ·obtain⟨rfl,rfl⟩:=hg;exact(hv (hG 7 (qf 7 (by kernel_rfl)))).elim
  ·obtain⟨rfl,rfl⟩:=hg;exact(hv (hG 7 (qf 7 (by kernel_rfl)))).elim
  ·obtain⟨rfl,rfl⟩:=hg;exact(hv (hG 7 (qf 7 (by kernel_rfl)))).elim
  ·obtain⟨rfl,rfl⟩:=hg;exact(hv (hG 12 (qf 12 (by kernel_rfl)))).elim
  ·obtain⟨rfl,rfl⟩:=hg;exact(hv (hG 12 (qf 12 (by kernel_rfl)))).elim
  ·obtain⟨rfl,rfl⟩:=hg;exact(hv (hG 16 (qf 16 (by kernel_rfl)))).elim
  ·obtain⟨rfl,rfl⟩:=hg;exact(hv (hG 16 (qf 16 (by kernel_rfl)))).elim
  ·obtain⟨rfl,rfl⟩:=hg;exact(hv (hG 16 (qf 16 (by kernel_rfl)))).elim
  ·obtain⟨rfl,rfl⟩:=hg;exact(hv (hG 16 (qf 16 (by kernel_rfl)))).elim
 intro vs W17 hI;obtain⟨hS,hG⟩:=hI;have g21:vs 21=.bool false:=hG 21 (by kernel_rfl) (by decide);have HS:=QH (hS:W3S IV V0 w.heap.size X vp pd (0,0) 0 f1 (1,1) 1 wm true W17);clear hS hG;simp only[qZ,qM,if_true];rw[g21];generalize vs 0=y0;generalize vs 1=y1;generalize vs 2=y2;generalize vs 3=y3;generalize vs 4=y4;generalize vs 5=y5;generalize vs 6=y6;generalize vs 7=y7;generalize vs 8=y8;generalize vs 9=y9;generalize vs 10=y10;generalize vs 11=y11;generalize vs 12=y12;generalize vs 13=y13;generalize vs 14=y14;generalize vs 15=y15;generalize vs 16=y16;generalize vs 17=y17;generalize vs 18=y18;generalize vs 19=y19;generalize vs 20=y20;clear g21;simp only[Act.put,List.setIfInBounds_toArray,List.set_cons_succ,List.set_cons_zero];have HW:Hid (Wk IV W17 w.heap.size X vp pd (1,1) 1 wm):=HS.out.2.2
 replace B9:=QH (B9.out.of_block (HS.out.1.block B9.out.lt (.inl HX.out.1)))
 replace B10:=QH (B10.out.of_block (HS.out.1.block B10.out.lt (.inl HX.out.2.1)))
 replace B6:=QH (B6.out.of_block (HS.out.1.block B6.out.lt (.inl HX.out.2.2.1)))
 replace HPQ:=QH (vY HS.out.1 HPQ.out HX.out.2.2.2)
 have yc:=QH (qoJ.out.trans (HS.out.1.below qoJ.out.size));clear HS HS0 qoJ;have HAS:=QH (qfo H HW.out (by decide));rw[show nE 1 (1,1) wm.target wm.next=.tuple #[.int .i64 1,.agg #[.int .u64 1,.int .u64 1],.agg #[.int .u64 0,.int .u64 0],.int .i64 0]from rfl]at HAS;go_wp2_with fail;refine HAS.out.mono ?_;rintro e W18 ⟨rfl,hb⟩;dsimp only
 replace HW:=QH (Wk.below H HW.out hb)
 replace B6:=QH (B6.out.below hb)
 replace HPQ:=QH (HPQ.out.below hb)
 have h9:=B9.out.below hb;have h10:=B10.out.below hb
 replace yc:=QH (qc yc.out hb)
 clear HAS hb;have hb9:=(qB.refl (fun j=>j=g9∨j=g10) W18).setCell ⟨g9,0,none⟩ (.int .u64 1) (.inl (.inl rfl)) |>.setCell ⟨g9,1,none⟩ (.int .u64 1) (.inl (.inl rfl)) |>.setCell ⟨g10,0,none⟩ (.int .u64 0) (.inl (.inr rfl)) |>.setCell ⟨g10,1,none⟩ (.int .u64 0) (.inl (.inr rfl))
 have k9:qh ((((W18.setCell ⟨g9,0,none⟩ (.int .u64 1)).setCell ⟨g9,1,none⟩ (.int .u64 1)).setCell ⟨g10,0,none⟩ (.int .u64 0)).setCell ⟨g10,1,none⟩ (.int .u64 0)) g9 38 #[.int .u64 1,.int .u64 1]:=by
  have:=(h9.qu 0 (.int .u64 1)).qu 1 (.int .u64 1);refine qh.of_block (w:=(W18.setCell ⟨g9,0,none⟩ (.int .u64 1)).setCell ⟨g9,1,none⟩ (.int .u64 1)) (by simpa using this) ?_;rw[qw _ _ _ _ _ HG9.out.2.2.1,qw _ _ _ _ _ HG9.out.2.2.1]
 have uO:qh ((((W18.setCell ⟨g9,0,none⟩ (.int .u64 1)).setCell ⟨g9,1,none⟩ (.int .u64 1)).setCell ⟨g10,0,none⟩ (.int .u64 0)).setCell ⟨g10,1,none⟩ (.int .u64 0)) g10 38 #[.int .u64 0,.int .u64 0]:=by
  have h:=h10.of_block (w':=(W18.setCell ⟨g9,0,none⟩ (.int .u64 1)).setCell ⟨g9,1,none⟩ (.int .u64 1)) (by rw[qw _ _ _ _ _ (Ne.symm HG9.out.2.2.1),qw _ _ _ _ _ (Ne.symm HG9.out.2.2.1)]);have:=(h.qu 0 (.int .u64 0)).qu 1 (.int .u64 0);simpa using this
 have y0:=h9.cell 0;have y1:=h9.cell 1;have yf0:=h9.frozen 0;have yf1:=h9.frozen 1;have yl:=h9.lt;have z0:=h10.cell 0;have z1:=h10.cell 1;have zf0:=h10.frozen 0;have zf1:=h10.frozen 1;have zl:=h10.lt;have hne:¬ g9=g10:=HG9.out.2.2.1;have q2M:¬ g10=g9:=fun e=>HG9.out.2.2.1 e.symm;simp only[QA,QB,QC]at y0 y1 z0 z1;obtain⟨V1,hV1⟩:=QE ((((W18.setCell ⟨g9,0,none⟩ (.int .u64 1)).setCell ⟨g9,1,none⟩ (.int .u64 1)).setCell ⟨g10,0,none⟩ (.int .u64 0)).setCell ⟨g10,1,none⟩ (.int .u64 0));rw[hV1]at hb9 k9 uO;have rR:=QH hb9
 replace B9:=QH k9
 replace B10:=QH uO
 have HV1:=QH hV1;clear hb9 h9 h10 k9 uO hV1
 replace HW:=QH (Wk.turn H (Y:=X) HW.out rR.out (fun j hj=>by rcases hj with rfl|rfl;exact .inl HX.out.1;exact .inl HX.out.2.1) (fun j hj=>.inl hj))
 replace B6:=QH (B6.out.of_block (rR.out.block g6 B6.out.lt (fun e=>by have:=HG9.out;omega)))
 replace HPQ:=QH (qbS HPQ.out rR.out.size (fun b o e hl=>rR.out.block b hl (fun h=>by have:=HQN.out b o e;omega)))
 have qsQ:Hid (Below w.heap.size w V1):=yc.out.trans (rR.out.below (fun j hj=>by have:=eU.out;rcases hj with rfl|rfl <;> omega) yc.out.size);have oY:Hid (W3S IV V1 w.heap.size X vp pd (1,1) 1 wm (1,1) 1 wm false V1.drew):=⟨Ke.of_below (Below.refl _ _).drew,qsQ.out.size,Wk.below H HW.out (Below.refl _ _).drew⟩;clear HW yc rR;go_upto_region 13 with fail;try rw[HV1.out]
 clear HV1 y0 y1 yf0 yf1 yl z0 z1 zf0 zf1 zl hne q2M;refine xX (by kernel_rfl) [97,98,99,100,101,102,103,104,105,106,107,108,109,110,111,112,113,114,115,116,117,118,0] (by kernel_rfl) (fun L vs W=>W3S IV V1 w.heap.size X vp pd (1,1) 1 wm (1,1) 1 wm (L 19) W∧∀i,L i=true→i<23→cy vp cq Aq i (vs i) W) ⟨oY.out,fun i hi=>by cases hi⟩ ?_ ?_ ?_
 ·intro i o L vs ρ W ho cE qf hρ hgd hI;obtain⟨hS,cS⟩:=hI;have hG:∀j,L j=true→cy vp cq Aq j (vs j) W:=fun j hj=>by
   by_cases uj:j<23
   ·exact cS j hj uj
   ·match j,uj with
    | j+23,_=>exact trivial
  have rM:i<23:=(Array.getElem?_eq_some_iff.1 ho).1;have hc:=hρ.const;have hfn:=hρ.fn;have next:∀v W',(fun(_ _:World)=>True) W W'→W3S IV V1 w.heap.size X vp pd (1,1) 1 wm (1,1) 1 wm (qN L i 19) W'→cy vp cq Aq i v W'→W3S IV V1 w.heap.size X vp pd (1,1) 1 wm (1,1) 1 wm (qN L i 19) W'∧∀j,qN L i j=true→j<23→cy vp cq Aq j (zZ vs i v j) W':=fun v W' h1 h0 h2=>by
   refine⟨h0,fun j hj uj=>?_⟩;by_cases uR:j=i
   ·subst uR;simpa[zZ]using h2
   ·simp only[qN,if_neg uR]at hj;simpa[zZ,uR]using qlE vp cq Aq j _ W W' uj (cS j hj uj) h1
  have k9:=B9.out.of_block (hS.1.block B9.out.lt (.inl HX.out.1));have uO:=B10.out.of_block (hS.1.block B10.out.lt (.inl HX.out.2.1));have k6:=B6.out.of_block (hS.1.block B6.out.lt (.inl HX.out.2.2.1));have y0:=k9.cell 0;have y1:=k9.cell 1;have yl:=k9.lt;have z0:=uO.cell 0;have z1:=uO.cell 1;have zl:=uO.lt;have x0:=k6.cell 0;have x1:=k6.cell 1;have x2:=k6.cell 2;have x3:=k6.cell 3;have x4:=k6.cell 4;have x5:=k6.cell 5;have x6:=k6.cell 6;have xl:=k6.lt;simp only[QA,QB,QC]at y0 y1 z0 z1 x0 x1 x2 x3 x4 x5 x6;rcases i with _|_|_|_|_|_|_|_|_|_|_|_|_|_|_|_|_|_|_|_|_|_|_|i;all_goals (first|omega|skip)
  all_goals simp only[QA,QB,QC,Option.some.injEq]at ho
  all_goals subst ho
  ·have o8:ρ (.tmp 8)=.int .i64 1:=hρ.out 8 rfl;exact qa (w':=W) (by unfold execOp;simp only[o8,hc];go_simp) (next _ _ trivial (by simpa only[qN,Nat.reduceEqDiff,if_false,if_true,reduceIte]using hS) rfl)
  ·have g97:cy vp cq Aq 0 (vs 0) W:=hG 0 (qf 0 (by kernel_rfl));have s97:ρ (.tmp 97)=.int .i64 1:=(hρ.at_ 97 0 rfl).trans g97;exact qa (w':=W) (by unfold execOp;simp only[s97,hc];go_simp) (next _ _ trivial (by simpa only[qN,Nat.reduceEqDiff,if_false,if_true,reduceIte]using hS) rfl)
  ·have g98:cy vp cq Aq 1 (vs 1) W:=hG 1 (qf 1 (by kernel_rfl));have s98:ρ (.tmp 98)=.bool true:=(hρ.at_ 98 1 rfl).trans g98;exact qa (w':=W) (by unfold execOp;simp only[s98,hc];go_simp) (next _ _ trivial (by simpa only[qN,Nat.reduceEqDiff,if_false,if_true,reduceIte]using hS) rfl)
  ·have o9:ρ (.tmp 9)=pt g9:=hρ.out 9 rfl;exact qa (w':=W) (by unfold execOp;simp only[o9,hc];go_simp) (next _ _ trivial (by simpa only[qN,Nat.reduceEqDiff,if_false,if_true,reduceIte]using hS) rfl)
  ·refine qi (f:=40) (args:=#[.int .u64 1,.int .u64 1]) (w':=W) (by unfold execOp;simp only[hfn,];go_simp) (((qF 1 1 W)).mono ?_);rintro x W' ⟨rfl,hb'⟩;exact⟨_,rfl,next _ _ trivial (by have h0:=cu H hS hb';simpa only[qN,Nat.reduceEqDiff,if_false,if_true,reduceIte]using h0) rfl⟩
  ·have q2N:cy vp cq Aq 3 (vs 3) W:=hG 3 (qf 3 (by kernel_rfl));have q2O:ρ (.tmp 100)=.agg #[.int .u64 1,.int .u64 1]:=(hρ.at_ 100 3 rfl).trans q2N;have q2P:cy vp cq Aq 4 (vs 4) W:=hG 4 (qf 4 (by kernel_rfl));have q2Q:ρ (.tmp 101)=.agg #[.int .u64 1,.int .u64 1]:=(hρ.at_ 101 4 rfl).trans q2P;exact qa (w':=W) (by unfold execOp;simp only[q2O,q2Q,hc];go_simp) (next _ _ trivial (by simpa only[qN,Nat.reduceEqDiff,if_false,if_true,reduceIte]using hS) rfl)
  ·have g99:cy vp cq Aq 2 (vs 2) W:=hG 2 (qf 2 (by kernel_rfl));have s99:ρ (.tmp 99)=.bool true:=(hρ.at_ 99 2 rfl).trans g99;have q2R:cy vp cq Aq 5 (vs 5) W:=hG 5 (qf 5 (by kernel_rfl));have q2S:ρ (.tmp 102)=.bool true:=(hρ.at_ 102 5 rfl).trans q2R;exact qa (w':=W) (by unfold execOp;simp only[s99,q2S,hc];go_simp) (next _ _ trivial (by simpa only[qN,Nat.reduceEqDiff,if_false,if_true,reduceIte]using hS) rfl)
  ·have q2T:cy vp cq Aq 6 (vs 6) W:=hG 6 (qf 6 (by kernel_rfl));have q2U:ρ (.tmp 103)=.bool true:=(hρ.at_ 103 6 rfl).trans q2T;exact qa (w':=W) (by unfold execOp;simp only[q2U,hc];go_simp) (next _ _ trivial (by simpa only[qN,Nat.reduceEqDiff,if_false,if_true,reduceIte]using hS) rfl)
  ·have o10:ρ (.tmp 10)=pt g10:=hρ.out 10 rfl;exact qa (w':=W) (by unfold execOp;simp only[o10,hc];go_simp) (next _ _ trivial (by simpa only[qN,Nat.reduceEqDiff,if_false,if_true,reduceIte]using hS) rfl)
  ·refine qi (f:=40) (args:=#[.int .u64 0,.int .u64 0]) (w':=W) (by unfold execOp;simp only[hfn,];go_simp) (((qF 0 0 W)).mono ?_);rintro x W' ⟨rfl,hb'⟩;exact⟨_,rfl,next _ _ trivial (by have h0:=cu H hS hb';simpa only[qN,Nat.reduceEqDiff,if_false,if_true,reduceIte]using h0) rfl⟩
  ·have q2V:cy vp cq Aq 8 (vs 8) W:=hG 8 (qf 8 (by kernel_rfl));have q2W:ρ (.tmp 105)=.agg #[.int .u64 0,.int .u64 0]:=(hρ.at_ 105 8 rfl).trans q2V;have q2X:cy vp cq Aq 9 (vs 9) W:=hG 9 (qf 9 (by kernel_rfl));have q2Y:ρ (.tmp 106)=.agg #[.int .u64 0,.int .u64 0]:=(hρ.at_ 106 9 rfl).trans q2X;exact qa (w':=W) (by unfold execOp;simp only[q2W,q2Y,hc];go_simp) (next _ _ trivial (by simpa only[qN,Nat.reduceEqDiff,if_false,if_true,reduceIte]using hS) rfl)
  ·have q2Z:cy vp cq Aq 7 (vs 7) W:=hG 7 (qf 7 (by kernel_rfl));have q3a:ρ (.tmp 104)=.bool true:=(hρ.at_ 104 7 rfl).trans q2Z;have qsR:cy vp cq Aq 10 (vs 10) W:=hG 10 (qf 10 (by kernel_rfl));have qsS:ρ (.tmp 107)=.bool true:=(hρ.at_ 107 10 rfl).trans qsR;exact qa (w':=W) (by unfold execOp;simp only[q3a,qsS,hc];go_simp) (next _ _ trivial (by simpa only[qN,Nat.reduceEqDiff,if_false,if_true,reduceIte]using hS) rfl)
  ·have qsT:cy vp cq Aq 11 (vs 11) W:=hG 11 (qf 11 (by kernel_rfl));have qsU:ρ (.tmp 108)=.bool true:=(hρ.at_ 108 11 rfl).trans qsT;exact qa (w':=W) (by unfold execOp;simp only[qsU,hc];go_simp) (next _ _ trivial (by simpa only[qN,Nat.reduceEqDiff,if_false,if_true,reduceIte]using hS) rfl)
  ·have o11:ρ (.tmp 11)=.int .i64 0:=hρ.out 11 rfl;exact qa (w':=W) (by unfold execOp;simp only[o11,hc];go_simp) (next _ _ trivial (by simpa only[qN,Nat.reduceEqDiff,if_false,if_true,reduceIte]using hS) rfl)
  ·have qsV:cy vp cq Aq 13 (vs 13) W:=hG 13 (qf 13 (by kernel_rfl));have qsW:ρ (.tmp 110)=.int .i64 0:=(hρ.at_ 110 13 rfl).trans qsV;exact qa (w':=W) (by unfold execOp;simp only[qsW,hc];go_simp) (next _ _ trivial (by simpa only[qN,Nat.reduceEqDiff,if_false,if_true,reduceIte]using hS) rfl)
  ·have qsX:cy vp cq Aq 12 (vs 12) W:=hG 12 (qf 12 (by kernel_rfl));have qsY:ρ (.tmp 109)=.bool true:=(hρ.at_ 109 12 rfl).trans qsX;have qsZ:cy vp cq Aq 14 (vs 14) W:=hG 14 (qf 14 (by kernel_rfl));have qta:ρ (.tmp 111)=.bool true:=(hρ.at_ 111 14 rfl).trans qsZ;exact qa (w':=W) (by unfold execOp;simp only[qsY,qta,hc];go_simp) (next _ _ trivial (by simpa only[qN,Nat.reduceEqDiff,if_false,if_true,reduceIte]using hS) rfl)
  ·have qtb:cy vp cq Aq 15 (vs 15) W:=hG 15 (qf 15 (by kernel_rfl));have qtc:ρ (.tmp 112)=.bool true:=(hρ.at_ 112 15 rfl).trans qtb;exact qa (w':=W) (by unfold execOp;simp only[qtc,hc];go_simp) (next _ _ trivial (by simpa only[qN,Nat.reduceEqDiff,if_false,if_true,reduceIte]using hS) rfl)
  ·have o2:ρ (.tmp 2)=pt vp:=hρ.out 2 rfl;exact qa (w':=W) (by unfold execOp;simp only[o2,hc];go_simp) (next _ _ trivial (by simpa only[qN,Nat.reduceEqDiff,if_false,if_true,reduceIte]using hS) rfl)
  ·have o6:ρ (.tmp 6)=pt g6:=hρ.out 6 rfl;exact qa (w':=W) (by unfold execOp;simp only[o6,hc];go_simp) (next _ _ trivial (by simpa only[qN,Nat.reduceEqDiff,if_false,if_true,reduceIte]using hS) rfl)
  ·have qtd:cy vp cq Aq 17 (vs 17) W:=hG 17 (qf 17 (by kernel_rfl));have qte:ρ (.tmp 114)=pt vp:=(hρ.at_ 114 17 rfl).trans qtd;have qtf:cy vp cq Aq 18 (vs 18) W:=hG 18 (qf 18 (by kernel_rfl));have qtg:ρ (.tmp 115)=.agg #[.int .u64 0,.int .u64 0,.int .u64 1,.int .u64 1,.int .i64 2,.int .i64 3,.slice Aq 1 cq]:=(hρ.at_ 115 18 rfl).trans qtf;rw[cE]at hS;refine qi (f:=25) (args:=#[pt vp,.agg #[.int .u64 0,.int .u64 0,.int .u64 1,.int .u64 1,.int .i64 2,.int .i64 3,.slice Aq 1 cq]]) (w':=W) (by unfold execOp;simp only[hfn,qte,qtg];go_simp) ((qxO H hS HPQ.out HX.out.2.2.2 q20 (by decide)).mono ?_);rintro x W' ⟨rfl,h1⟩;exact⟨_,rfl,next _ _ trivial (by simpa only[qN,if_true,reduceIte]using h1) rfl⟩
  ·have qth:cy vp cq Aq 19 (vs 19) W:=hG 19 (qf 19 (by kernel_rfl));have qti:ρ (.tmp 116)=.int .i64 9:=(hρ.at_ 116 19 rfl).trans qth;exact qa (w':=W) (by unfold execOp;simp only[qti,hc];go_simp) (next _ _ trivial (by simpa only[qN,Nat.reduceEqDiff,if_false,if_true,reduceIte]using hS) rfl)
  ·have qtj:cy vp cq Aq 16 (vs 16) W:=hG 16 (qf 16 (by kernel_rfl));have qtk:ρ (.tmp 113)=.bool true:=(hρ.at_ 113 16 rfl).trans qtj;have qtl:cy vp cq Aq 20 (vs 20) W:=hG 20 (qf 20 (by kernel_rfl));have qtm:ρ (.tmp 117)=.bool true:=(hρ.at_ 117 20 rfl).trans qtl;exact qa (w':=W) (by unfold execOp;simp only[qtk,qtm,hc];go_simp) (next _ _ trivial (by simpa only[qN,Nat.reduceEqDiff,if_false,if_true,reduceIte]using hS) rfl)
  ·have qtn:cy vp cq Aq 21 (vs 21) W:=hG 21 (qf 21 (by kernel_rfl));have qto:ρ (.tmp 118)=.bool true:=(hρ.at_ 118 21 rfl).trans qtn;exact qa (w':=W) (by unfold execOp;simp only[qto,hc];go_simp) (next _ _ trivial (by simpa only[qN,Nat.reduceEqDiff,if_false,if_true,reduceIte]using hS) rfl)
 ·intro i o L vs W j want ho cE qf hg hv hI;obtain⟨hS,cS⟩:=hI;have hG:∀j,L j=true→cy vp cq Aq j (vs j) W:=fun j hj=>by
   by_cases uj:j<23
   ·exact cS j hj uj
   ·match j,uj with
    | j+23,_=>exact trivial
  have rM:i<23:=(Array.getElem?_eq_some_iff.1 ho).1;rcases i with _|_|_|_|_|_|_|_|_|_|_|_|_|_|_|_|_|_|_|_|_|_|_|i;all_goals (first|omega|skip)
  all_goals simp only[QA,QB,QC,Option.some.injEq]at ho
  all_goals subst ho
  all_goals simp only[reduceCtorEq,Option.some.injEq,Prod.mk.injEq]at hg
  ·obtain⟨rfl,rfl⟩:=hg;exact(hv (hG 2 (qf 2 (by kernel_rfl)))).elim
  ·obtain⟨rfl,rfl⟩:=hg;exact(hv (hG 2 (qf 2 (by kernel_rfl)))).elim
  ·obtain⟨rfl,rfl⟩:=hg;exact(hv (hG 2 (qf 2 (by kernel_rfl)))).elim
  ·obtain⟨rfl,rfl⟩:=hg;exact(hv (hG 7 (qf 7 (by kernel_rfl)))).elim
  ·obtain⟨rfl,rfl⟩:=hg;exact(hv (hG 7 (qf 7 (by kernel_rfl)))).elim
  ·obtain⟨rfl,rfl⟩:=hg;exact(hv (hG 7 (qf 7 (by kernel_rfl)))).elim
  ·obtain⟨rfl,rfl⟩:=hg;exact(hv (hG 12 (qf 12 (by kernel_rfl)))).elim
  ·obtain⟨rfl,rfl⟩:=hg;exact(hv (hG 12 (qf 12 (by kernel_rfl)))).elim
  ·obtain⟨rfl,rfl⟩:=hg;exact(hv (hG 16 (qf 16 (by kernel_rfl)))).elim
  ·obtain⟨rfl,rfl⟩:=hg;exact(hv (hG 16 (qf 16 (by kernel_rfl)))).elim
  ·obtain⟨rfl,rfl⟩:=hg;exact(hv (hG 16 (qf 16 (by kernel_rfl)))).elim
  ·obtain⟨rfl,rfl⟩:=hg;exact(hv (hG 16 (qf 16 (by kernel_rfl)))).elim
 intro vs WE hI;obtain⟨hS,hG⟩:=hI;have g22:vs 22=.bool true:=hG 22 (by kernel_rfl) (by decide);have HBE:Hid (Below w.heap.size w WE):=qsQ.out.trans (hS.1.below qsQ.out.size);clear hS hG;simp only[qZ,qM,if_true];rw[g22];generalize vs 0=y0;generalize vs 1=y1;generalize vs 2=y2;generalize vs 3=y3;generalize vs 4=y4;generalize vs 5=y5;generalize vs 6=y6;generalize vs 7=y7;generalize vs 8=y8;generalize vs 9=y9;generalize vs 10=y10;generalize vs 11=y11;generalize vs 12=y12;generalize vs 13=y13;generalize vs 14=y14;generalize vs 15=y15;generalize vs 16=y16;generalize vs 17=y17;generalize vs 18=y18;generalize vs 19=y19;generalize vs 20=y20;generalize vs 21=y21;clear g22;simp only[Act.put,List.setIfInBounds_toArray,List.set_cons_succ,List.set_cons_zero];go_wp2_with fail;go_ret;exact⟨rfl,HBE.out⟩
end Go.Proofs.YtdpbdkacngaemaaGreatDoor.rv

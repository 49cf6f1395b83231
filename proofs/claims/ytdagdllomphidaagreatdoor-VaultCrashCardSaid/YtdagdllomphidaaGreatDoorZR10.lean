/- VgOff, VgTok, Step, JWrites, JKept, JAlike, JReady, JWorks, JAllP, JTwiceP, JKnP, JKnC, VgOpn, DkApp2, DkCopy, DkCopy2, VgFmt, VgSnp, VgRol, VgTb6, VgStp, VgStA. -/
import Derived.Test.YtdagdllomphidaaGreatDoorZR9
import Derived.Deep.RegionLawGrows
import Derived.Shelf.SlMaps.Clone
import Derived.Laws.Cover3
set_option linter.unusedVariables false
set_option linter.unusedSimpArgs false
set_option maxHeartbeats 30000000
set_option maxRecDepth 100000
namespace Go.Proofs.YtdagdllomphidaaGreatDoor.vt.pg
open _root_.Go.Proofs.Tryz Go Go.RowKit Go.Sort ib mt im sp
section
variable {o1 o2:Nat→Prop} {w w1 w':World} {v pd:Nat} {d:DD} {m:Mt} {l:Bool}
theorem qcd(h:VP jL w o1 o2 v pd d m l)(hb:Below w.heap.size w w1)(h':VP jL w' o1 o2 v pd d m true)(hbu:ib.qz (fun j=>j=v) w1 w'):ua jL o1 o2 v pd (pL d m) w (.returned (.int .i64 6)) w':=by
 obtain⟨A0,A1,A2,c0,c1,c2,h1⟩:=h.is;exact⟨6,d,m,true,o1,o2,rfl,h',(ib.qz.of_below (S:=fun j=>o1 j∨o2 j) hb).trans (hbu.mono (fun j hj=>by rw[hj];exact .inl h1.own)) (fun _ h=>.inl h),fun j hj=>.inl hj,rfl,rfl,rfl,rfl⟩
theorem tG (k:Int)(s:Bt)(h:VP jL w o1 o2 v pd d m l)(hl:l=true∨d.on=false):Calls prog 17 #[pt v,.int .i64 k,.string (str s)] w (ua jL o1 o2 v pd (pL d m) w):=by
 have HV:=QH h;have xF:=QH (bB h hl);clear h hl;go_enter func17,ntmps17;go_wp2_with fail;refine xF.out.mono ?_;rintro e W1 ⟨rfl,hv,hb⟩;have H1:=QH hv;have H2:=QH hb;clear hv hb xF;go_wp2_with fail;go_ret;exact qcd HV.out (Below.refl _ _) H1.out H2.out
theorem rW (h:VP jL w o1 o2 v pd d m l)(hl:l=true∨d.on=false):Calls prog 19 #[pt v] w (ua jL o1 o2 v pd (pL d m) w):=by
 have HV:=QH h;have xF:=QH (bB h hl);clear h hl;go_enter func19,ntmps19;go_wp2_with fail;refine xF.out.mono ?_;rintro e W1 ⟨rfl,hv,hb⟩;have H1:=QH hv;have H2:=QH hb;clear hv hb xF;go_wp2_with fail;go_ret;exact qcd HV.out (Below.refl _ _) H1.out H2.out
theorem qce(g:Gd)(h:VP jL w o1 o2 v pd d m l)(hl:l=true∨d.on=false):Calls prog 31 #[pt v,gv g] w (ua jL o1 o2 v pd (pL d m) w):=by
 obtain⟨g1,g2⟩:=g;have HV:=QH h;have hb:=(Below.refl _ w).alloc (Nat.le_refl _) (.cells #[.int .u64 (g1:Int),.int .u64 (g2:Int)] 55);obtain⟨W,hW2⟩:=QE (w.alloc (.cells #[.int .u64 (g1:Int),.int .u64 (g2:Int)] 55));rw[hW2]at hb;have HB:=QH hb;have xF:=QH (bB (qX h hb) hl);clear h hl hb;show Calls _ _ #[pt v,.agg #[.int .u64 (g1:Int),.int .u64 (g2:Int)]] _ _;go_enter func31,ntmps31;go_upto_region 1 with fail;try rw[hW2]
 clear hW2;go_wp2_with fail;refine xF.out.mono ?_;rintro e W1 ⟨rfl,hv,hb⟩;have H1:=QH hv;have H2:=QH hb;clear hv hb xF;go_wp2_with fail;go_ret;exact qcd HV.out HB.out H1.out H2.out
end
theorem ey (k:Int)(s:Bt)(w:World):Calls prog 17 #[.pointer none,.int .i64 k,.string (str s)] w (ch.xU 1 w):=by
 have xF:Hid (∀W,Calls prog 52 #[.pointer none] W fun e w'=>e=.returned (.int .i64 1)∧W=w'):=fun W=>yh W;go_enter func17,ntmps17;go_wp2_with fail;refine(xF.out _).mono ?_;rintro e W1 ⟨rfl,rfl⟩;go_wp2_with fail;go_ret;exact⟨rfl,Below.refl _ _⟩
theorem lT (n:Int)(w:World):Calls prog 34 #[.pointer none,.int .i64 n] w (ch.xU 1 w):=by
 have xF:Hid (∀W,Calls prog 52 #[.pointer none] W fun e w'=>e=.returned (.int .i64 1)∧W=w'):=fun W=>yh W;go_enter func34,ntmps34;go_wp2_with fail;refine(xF.out _).mono ?_;rintro e W1 ⟨rfl,rfl⟩;go_wp2_with fail;go_ret;exact⟨rfl,Below.refl _ _⟩
theorem qeq(w:World):Calls prog 19 #[.pointer none] w (ch.xU 1 w):=by
 have xF:Hid (∀W,Calls prog 52 #[.pointer none] W fun e w'=>e=.returned (.int .i64 1)∧W=w'):=fun W=>yh W;go_enter func19,ntmps19;go_wp2_with fail;refine(xF.out _).mono ?_;rintro e W1 ⟨rfl,rfl⟩;go_wp2_with fail;go_ret;exact⟨rfl,Below.refl _ _⟩
theorem lU (g:Gd)(w:World):Calls prog 30 #[.pointer none,gv g] w (ch.xU 1 w):=by
 have HB:=QH ((Below.refl w.heap.size w).alloc (Nat.le_refl _) (.cells #[.int .u64 (g.1:Int),.int .u64 (g.2:Int)] 55));have xF:Hid (∀W,Calls prog 52 #[.pointer none] W fun e w'=>e=.returned (.int .i64 1)∧W=w'):=fun W=>yh W;unfold gv;go_enter func30,ntmps30;go_wp2_with fail;refine(xF.out _).mono ?_;rintro e W1 ⟨rfl,rfl⟩;go_wp2_with fail;go_ret;exact⟨rfl,HB.out⟩
theorem lV (g:Gd)(w:World):Calls prog 31 #[.pointer none,gv g] w (ch.xU 1 w):=by
 have HB:=QH ((Below.refl w.heap.size w).alloc (Nat.le_refl _) (.cells #[.int .u64 (g.1:Int),.int .u64 (g.2:Int)] 55));have xF:Hid (∀W,Calls prog 52 #[.pointer none] W fun e w'=>e=.returned (.int .i64 1)∧W=w'):=fun W=>yh W;unfold gv;go_enter func31,ntmps31;go_wp2_with fail;refine(xF.out _).mono ?_;rintro e W1 ⟨rfl,rfl⟩;go_wp2_with fail;go_ret;exact⟨rfl,HB.out⟩
theorem qhf(f:Tf)(w:World):Calls prog 24 #[.pointer none,tkV f none 0 0,.slice none 0 0] w (ch.xU 1 w):=by
 have HB:=QH ((Below.refl w.heap.size w).alloc (Nat.le_refl _) (.cells (eu f none 0 0) 59));have xF:Hid (∀W,Calls prog 52 #[.pointer none] W fun e w'=>e=.returned (.int .i64 1)∧W=w'):=fun W=>yh W;unfold tkV;unfold eu at HB;go_enter func24,ntmps24;go_wp2_with fail;refine(xF.out _).mono ?_;rintro e W1 ⟨rfl,rfl⟩;go_wp2_with fail;go_ret;exact⟨rfl,HB.out⟩
end Go.Proofs.YtdagdllomphidaaGreatDoor.vt.pg
namespace Go.Proofs.YtdagdllomphidaaGreatDoor.vt.pg
open _root_.Go.Proofs.Tryz Go Go.RowKit Go.Sort ib mt im sp
def qhg (W:World)(g:Nat)(t:Tk)(v:Value):World :=
 ((((((W.setCell ⟨g,0,none⟩ (.int .u64 (t.base.1:Int))).setCell ⟨g,1,none⟩ (.int .u64 (t.base.2:Int))).setCell ⟨g,2,none⟩ (.int .u64 (t.target.1:Int))).setCell ⟨g,3,none⟩ (.int .u64 (t.target.2:Int))).setCell ⟨g,4,none⟩ (.int .i64 t.next)).setCell ⟨g,5,none⟩ (.int .i64 t.all)).setCell ⟨g,6,none⟩ v
theorem qer{W:World}{g:Nat}{z0 z1 z2 z3 z4 z5 z6:Value}(t:Tk)(A:Option Addr)(c:Nat)(h:qg W g 59 #[z0,z1,z2,z3,z4,z5,z6]):qg (qhg W g t (.slice A t.qo.length c)) g 59 (eJ t A t.qo.length c):=by
 have h9:=((((((h.ql 0 (.int .u64 (t.base.1:Int))).ql 1 (.int .u64 (t.base.2:Int))).ql 2 (.int .u64 (t.target.1:Int))).ql 3 (.int .u64 (t.target.2:Int))).ql 4 (.int .i64 t.next)).ql 5 (.int .i64 t.all)).ql 6 (.slice A t.qo.length c);simp only[List.setIfInBounds_toArray,List.set_cons_succ,List.set_cons_zero]at h9;exact h9
theorem rX {W0 W:World}{g:Nat}{v:Value}{t:Tk}(h:Below W0.heap.size W0 W)(hg:W0.heap.size≤g):Below W0.heap.size W0 (qhg W g t v) :=
 ((((((h.setCell (p:=⟨g,0,none⟩) hg _).setCell (p:=⟨g,1,none⟩) hg _).setCell (p:=⟨g,2,none⟩) hg _).setCell (p:=⟨g,3,none⟩) hg _).setCell (p:=⟨g,4,none⟩) hg _).setCell (p:=⟨g,5,none⟩) hg _).setCell (p:=⟨g,6,none⟩) hg _
theorem qoS(W:World)(g:Nat)(v:Value)(t:Tk):ib.qz (fun j=>j=g) W (qhg W g t v) :=
 (((((((ib.qz.refl (fun j=>j=g) W).setCell ⟨g,0,none⟩ _ (.inl rfl)).setCell ⟨g,1,none⟩ _ (.inl rfl)).setCell ⟨g,2,none⟩ _ (.inl rfl)).setCell ⟨g,3,none⟩ _ (.inl rfl)).setCell ⟨g,4,none⟩ _ (.inl rfl)).setCell ⟨g,5,none⟩ _ (.inl rfl)).setCell ⟨g,6,none⟩ _ (.inl rfl)
theorem q19{W:World}{g:Nat}(t:Tk)(A:Option Addr)(c:Nat)(h:qg W g 59 (eJ t A t.qo.length c)):(loadVar 59 ⟨g,0,none⟩).run prog W=.ok (.agg (eJ t A t.qo.length c)) W :=
 run_loadVar_row W g 59 59 _ (0,0) _ h underlying59 rfl (by kernel_rfl)
theorem qsu{w:World}{A:Option Addr}{l:List Int}(h:ib.qM w A l):qro w A l:=fun i hi=>by
 obtain⟨b,o,h1,h2,h3,_⟩:=h i hi;exact⟨b,o,h1,h2,h3⟩
def tz:Array Value:=#[.int .u64 0,.int .u64 0,.int .u64 0,.int .u64 0,.int .i64 0,.int .i64 0,.slice none 0 0]
def q1A (W:World)(g:Nat):World :=
 ((((((W.setCell ⟨g,0,none⟩ (.int .u64 0)).setCell ⟨g,1,none⟩ (.int .u64 0)).setCell ⟨g,2,none⟩ (.int .u64 0)).setCell ⟨g,3,none⟩ (.int .u64 0)).setCell ⟨g,4,none⟩ (.int .i64 0)).setCell ⟨g,5,none⟩ (.int .i64 0)).setCell ⟨g,6,none⟩ (.slice none 0 0)
theorem qes{W:World}{g:Nat}(h:qg W g 59 tz):qg (q1A W g) g 59 tz:=by
 have h9:=((((((h.ql 0 (.int .u64 0)).ql 1 (.int .u64 0)).ql 2 (.int .u64 0)).ql 3 (.int .u64 0)).ql 4 (.int .i64 0)).ql 5 (.int .i64 0)).ql 6 (.slice none 0 0);simp only[tz,List.setIfInBounds_toArray,List.set_cons_succ,List.set_cons_zero]at h9;exact h9
theorem rY {W0 W:World}{g:Nat}(h:Below W0.heap.size W0 W)(hg:W0.heap.size≤g):Below W0.heap.size W0 (q1A W g) :=
 ((((((h.setCell (p:=⟨g,0,none⟩) hg _).setCell (p:=⟨g,1,none⟩) hg _).setCell (p:=⟨g,2,none⟩) hg _).setCell (p:=⟨g,3,none⟩) hg _).setCell (p:=⟨g,4,none⟩) hg _).setCell (p:=⟨g,5,none⟩) hg _).setCell (p:=⟨g,6,none⟩) hg _
theorem qur{W:World}{g:Nat}(h:qg W g 59 tz):(loadVar 59 ⟨g,0,none⟩).run prog W=.ok (.agg tz) W :=
 run_loadVar_row W g 59 59 _ (0,0) _ h underlying59 rfl (by kernel_rfl)
theorem q7f:tkV (tf zR) none 0 0=.agg tz:=by
 simp only[tkV,tf,zR,tz];simp
theorem mr {w w':World}(hb:Below w.heap.size w w'):eL zR w (.returned (.agg tz)) w' :=
 ⟨none,0,by rw[← q7f];rfl,fun i h=>absurd h (by simp[zR]),ib.uE.none _ _,hb⟩
theorem qhh(w:World):Calls prog 25 #[.pointer none] w (eL zR w):=by
 have hb:=(Below.refl _ w).alloc (Nat.le_refl _) (.cells tz 59);have hk:=qg.new w 59 tz;obtain⟨W,hW⟩:=QE (w.alloc (.cells tz 59));rw[hW]at hb hk;have HE:=QH (mr (rY hb (Nat.le_refl _)));have HL:=QH (qur (qes hk));have q0:=hk.cell 0;have q1:=hk.cell 1;have q2:=hk.cell 2;have q3:=hk.cell 3;have q4:=hk.cell 4;have q5:=hk.cell 5;have q6:=hk.cell 6;have f0:=hk.frozen 0;have f1:=hk.frozen 1;have f2:=hk.frozen 2;have f3:=hk.frozen 3;have f4:=hk.frozen 4;have f5:=hk.frozen 5;have f6:=hk.frozen 6;have mL:=hk.lt;simp only[tz,QA,QB,QC]at q0 q1 q2 q3 q4 q5 q6;unfold tz at hW;clear hb hk;go_enter func25,ntmps25;go_upto_region 1 with fail;try rw[hW]
 clear hW;go_wp2_with fail;exact bodyPost_ret (v:=.agg tz) (im.zy rfl _ _ _ ⟨w.heap.size,0,none⟩ _ rfl HL.out) rfl HE.out
theorem iT {o:Nat→Prop}{w:World}{v pd:Nat}{m:Mt}{l:Bool}(h:jL o w v pd m l):Calls prog 25 #[pt v] w (eL m.tok w):=by
 have hb:=(Below.refl _ w).alloc (Nat.le_refl _) (.cells tz 59);have hk:=qg.new w 59 tz;obtain⟨W,hW⟩:=QE (w.alloc (.cells tz 59));rw[hW]at hb hk;obtain⟨A0,A1,A2,c0,c1,c2,hA0⟩:=h;have hA:=hA0.below hb;have HA:=QH hA;have HK:=QH hk;have HB:=QH hb;have HTN:=QH (pT (w:=W) (A0:=A0) (A1:=A1) (A2:=A2) (c0:=c0) (c1:=c1) (c2:=c2) m);obtain⟨q,hq⟩:=QE (decide (m.tok.target=(0,0)));rw[hq]at HTN;have HQ:=QH hq;obtain⟨bE,k0,k1,k2,k3,k4,k5,k6,k7,k8,k9,cV⟩:=hA.cells;unfold zq at HTN;unfold tz at hW;clear hb hk hA hA0 hq;go_enter func25,ntmps25;go_upto_region 1 with fail;try rw[hW]
 clear hW;go_wp2_with fail;refine HTN.out.mono ?_;rintro e W1 ⟨rfl,hb1⟩;have qV:=QH (qc HB.out hb1);have zO:=HK.out.below hb1;have eI:=QH zO;have iR:=QH (HA.out.below hb1);have HLT:Hid (w.heap.size<W.heap.size∧W.heap.size≤W1.heap.size):=⟨HK.out.lt,hb1.size⟩;clear hb1 HTN k0 k1 k2 k3 k4 k5 k6 k7 k8 k9 cV bE HA HK HB;have q0:=zO.cell 0;have q1:=zO.cell 1;have q2:=zO.cell 2;have q3:=zO.cell 3;have q4:=zO.cell 4;have q5:=zO.cell 5;have q6:=zO.cell 6;have f0:=zO.frozen 0;have f1:=zO.frozen 1;have f2:=zO.frozen 2;have f3:=zO.frozen 3;have f4:=zO.frozen 4;have f5:=zO.frozen 5;have f6:=zO.frozen 6;have mL:=zO.lt;simp only[tz,QA,QB,QC]at q0 q1 q2 q3 q4 q5 q6;clear zO;cases q with
 | true =>
  have eF:=QH (iR.out.tk (of_decide_eq_true HQ.out));have HE:=QH (mr (rY qV.out (Nat.le_refl _)));have HL:=QH (qur (qes eI.out));go_wp2_with fail;refine bodyPost_ret (v:=.agg tz) (im.zy rfl _ _ _ ⟨w.heap.size,0,none⟩ _ rfl HL.out) rfl ?_;rw[eF.out];exact HE.out
 | false =>
  obtain⟨bE,k0,k1,k2,k3,k4,k5,k6,k7,k8,k9,cV⟩:=iR.out.cells;have hb2:=(Below.refl _ W1).alloc (Nat.le_refl _) (.cells tz 59);have hk2:=qg.new W1 59 tz;obtain⟨W2,hW2⟩:=QE (W1.alloc (.cells tz 59));rw[hW2]at hb2 hk2;have hb3:=rX (v:=.slice A2 m.tok.qo.length c2) (t:=m.tok) hb2 (Nat.le_refl _);have hk3:=qer m.tok A2 c2 hk2;have s0:=hk2.cell 0;have s1:=hk2.cell 1;have s2:=hk2.cell 2;have s3:=hk2.cell 3;have s4:=hk2.cell 4;have s5:=hk2.cell 5;have s6:=hk2.cell 6;have g0:=hk2.frozen 0;have g1:=hk2.frozen 1;have g2:=hk2.frozen 2;have g3:=hk2.frozen 3;have g4:=hk2.frozen 4;have g5:=hk2.frozen 5;have g6:=hk2.frozen 6;have vO:=hk2.lt;simp only[tz,QA,QB,QC]at s0 s1 s2 s3 s4 s5 s6;have qZ:=QH (qc qV.out hb3);have l6:=QH hk3;have eG:=QH (eI.out.below hb3);have HI3:=QH (iR.out.tab.qo.at_.below hb3);have HIM:=QH iR.out.sz.qo;have nt:Hid (w.heap.size<W1.heap.size∧W1.heap.size<(qhg W2 W1.heap.size m.tok (.slice A2 m.tok.qo.length c2)).heap.size):=⟨eI.out.lt,hk3.lt⟩;unfold tz at hW2;clear hb2 hk2 hb3 hk3;go_upto_region 4 with fail;try rw[hW2]
  show Code.wp _ _ _ _ (qhg W2 W1.heap.size m.tok (.slice A2 m.tok.qo.length c2));obtain⟨W3,hW3⟩:=QE (qhg W2 W1.heap.size m.tok (.slice A2 m.tok.qo.length c2));rw[hW3]at qZ l6 eG HI3 nt ⊢;clear hW3 hW2 s0 s1 s2 s3 s4 s5 s6 g0 g1 g2 g3 g4 g5 g6 vO q0 q1 q2 q3 q4 q5 q6 f0 f1 f2 f3 f4 f5 f6 mL k0 k1 k2 k3 k4 k5 k6 k7 k8 k9 cV bE;have HC:=QH (gI A2 c2 m.tok.qo W3 HI3.out HIM.out);have q6:=l6.out.cell 6;have mL:=l6.out.lt;simp only[eJ,QA,QB,QC]at q6;go_wp2_with fail;refine HC.out.mono ?_;rintro e W4 sN;obtain rfl:=sN.1;have hb4:=sN.2.2;have hs4:=sN.sl HI3.out.ints.mem (fun j=>j=W3.heap.size) rfl;have hk4:=l6.out.below hb4;have hr4:=eG.out.below hb4;have hl4:=nt.out;have hz4:=hb4.size;have nB:Hid (qg (W4.setCell ⟨W1.heap.size,6,none⟩ (.slice (some ⟨W3.heap.size,0,none⟩) m.tok.qo.length m.tok.qo.length)) W1.heap.size 59 (eJ m.tok (some ⟨W3.heap.size,0,none⟩) m.tok.qo.length m.tok.qo.length)):=by
   have:=hk4.ql 6 (.slice (some ⟨W3.heap.size,0,none⟩) m.tok.qo.length m.tok.qo.length);simpa[Hid,eJ]using this
  have bO:Hid (qg (W4.setCell ⟨W1.heap.size,6,none⟩ (.slice (some ⟨W3.heap.size,0,none⟩) m.tok.qo.length m.tok.qo.length)) w.heap.size 59 tz):=hr4.of_block (qD _ _ _ _ _ (by omega));have jX:Hid (Below w.heap.size w (W4.setCell ⟨W1.heap.size,6,none⟩ (.slice (some ⟨W3.heap.size,0,none⟩) m.tok.qo.length m.tok.qo.length))):=(qc qZ.out hb4).setCell (p:=⟨W1.heap.size,6,none⟩) (by show w.heap.size≤W1.heap.size;omega) _;have HS5:Hid (aA (fun j=>j=W3.heap.size) (W4.setCell ⟨W1.heap.size,6,none⟩ (.slice (some ⟨W3.heap.size,0,none⟩) m.tok.qo.length m.tok.qo.length)) (some ⟨W3.heap.size,0,none⟩) m.tok.qo m.tok.qo.length):=hs4.stay (wN fun j hj=>by omega);have k6:=hk4.cell 6;have f6:=hk4.frozen 6;have dx:=hk4.lt;simp only[eJ,QA,QB,QC]at k6;have q1C:Hid (W3.heap.size<(W4.setCell ⟨W1.heap.size,6,none⟩ (.slice (some ⟨W3.heap.size,0,none⟩) m.tok.qo.length m.tok.qo.length)).heap.size):=by
   have:=sN.2.1.lt;simpa[Hid,World.setCell]using this
  obtain⟨W5,iF⟩:=QE (W4.setCell ⟨W1.heap.size,6,none⟩ (.slice (some ⟨W3.heap.size,0,none⟩) m.tok.qo.length m.tok.qo.length));rw[iF]at nB bO jX HS5 q1C;clear sN hb4 hs4 hk4 hr4 hl4 hz4 HC q6 mL;go_upto_region 5 with fail;try rw[iF]
  clear iF k6 f6 dx;have j0:=nB.out.cell 0;have j1:=nB.out.cell 1;have j2:=nB.out.cell 2;have j3:=nB.out.cell 3;have j4:=nB.out.cell 4;have j5:=nB.out.cell 5;have j6:=nB.out.cell 6;have jlt:=nB.out.lt;simp only[eJ,QA,QB,QC]at j0 j1 j2 j3 j4 j5 j6;have q0:=bO.out.cell 0;have q1:=bO.out.cell 1;have q2:=bO.out.cell 2;have q3:=bO.out.cell 3;have q4:=bO.out.cell 4;have q5:=bO.out.cell 5;have q6:=bO.out.cell 6;have f0:=bO.out.frozen 0;have f1:=bO.out.frozen 1;have f2:=bO.out.frozen 2;have f3:=bO.out.frozen 3;have f4:=bO.out.frozen 4;have f5:=bO.out.frozen 5;have f6:=bO.out.frozen 6;have mL:=bO.out.lt;simp only[tz,QA,QB,QC]at q0 q1 q2 q3 q4 q5 q6;have kV:=rX (v:=.slice (some ⟨W3.heap.size,0,none⟩) m.tok.qo.length m.tok.qo.length) (t:=m.tok) jX.out (Nat.le_refl _);have HL:=QH (q19 m.tok (some ⟨W3.heap.size,0,none⟩) m.tok.qo.length (qer m.tok (some ⟨W3.heap.size,0,none⟩) m.tok.qo.length bO.out));have HE:Hid (eL m.tok w (.returned (.agg (eJ m.tok (some ⟨W3.heap.size,0,none⟩) m.tok.qo.length m.tok.qo.length))) (qhg W5 w.heap.size m.tok (.slice (some ⟨W3.heap.size,0,none⟩) m.tok.qo.length m.tok.qo.length))):=by
   have sJ:=qoS W5 w.heap.size (.slice (some ⟨W3.heap.size,0,none⟩) m.tok.qo.length m.tok.qo.length) m.tok;have hs6:=HS5.out.stay (uS.ou sJ (fun j hj=>by have:=nt.out;show ¬ j=w.heap.size;omega));refine⟨some ⟨W3.heap.size,0,none⟩,m.tok.qo.length,rfl,qsu hs6.at_.ints,fun b o e=>?_,kV⟩;simp only[Option.some.injEq,Addr.mk.injEq,and_true]at e;have h1:=nt.out;have h2:=HS5.out;have h3:=sJ.size;refine⟨by omega,?_⟩;have:=q1C.out;omega
  clear kV;go_wp2_with fail;exact bodyPost_ret (v:=.agg (eJ m.tok (some ⟨W3.heap.size,0,none⟩) m.tok.qo.length m.tok.qo.length)) (im.zy rfl _ _ _ ⟨w.heap.size,0,none⟩ _ rfl HL.out) rfl HE.out
end Go.Proofs.YtdagdllomphidaaGreatDoor.vt.pg
namespace Go.Proofs.YtdagdllomphidaaGreatDoor
open _root_.Go.Proofs.Tryz Go Go.RowKit
end Go.Proofs.YtdagdllomphidaaGreatDoor
namespace Go.Proofs.YtdagdllomphidaaGreatDoor.jr
open _root_.Go.Proofs.Tryz Go Go.RowKit dk wi
structure q1D where
 at_:Int
 c:UInt8
 short:Bool
def qcf (w:World)(a:Option Addr)(zs:List q1D):Prop :=
 ∀i (h:i<zs.length),∃b o,a=some ⟨b,o,none⟩∧b<w.heap.size∧w.cell? ⟨b,o+i*3,none⟩=some (.int .i64 zs[i].at_)∧w.cell? ⟨b,o+i*3+1,none⟩=some (.int .u8 (zs[i].c.toNat:Int))∧w.cell? ⟨b,o+i*3+2,none⟩=some (.bool zs[i].short)∧qG zs[i].at_
theorem qaE(n:Nat)(k:Int):dk.look (List.replicate n none) k=none:=by
 unfold dk.look;split
 ·rw[List.getElem?_replicate];split <;> rfl
 ·rfl
theorem JJ.n{tgt:Int→Bt}{d:DD}(h:JJ 200 tgt d):d.n=200:=h.rb.1
theorem JJ.now{tgt:Int→Bt}{d:DD}(h:JJ 200 tgt d):d.now=d.base:=by unfold DD.now;rw[h.more];rfl
theorem JJ.read{tgt:Int→Bt}{d:DD}(h:JJ 200 tgt d)(k:Int)(h0:145≤k)(h1:k<200):d.read k=(tgt k,0):=by
 unfold DD.read;have:d.has k=true:=by
  unfold DD.has;rw[h.n];simp;omega
 rw[if_neg (by rw[h.on];simp),if_neg (by rw[this];simp),h.now];exact congrArg (fun x=>(x,(0:Int))) (h.is k h0)
section
variable {w:World} {B p:Nat} {d:DD}
end
end Go.Proofs.YtdagdllomphidaaGreatDoor.jr
namespace Go.Proofs.YtdagdllomphidaaGreatDoor.jr
open _root_.Go.Proofs.Tryz Go Go.RowKit dk wi
theorem JJ.arm{tgt:Int→Bt}{d:DD}(h:JJ 200 tgt d)(f:Int):JJ 200 tgt (d.arm f):=⟨⟨h.on,h.more,h.room,h.rb⟩,h.is⟩
theorem RJ.arm{tgt:Int→Bt}{d:DD}(h:RJ 200 tgt d)(f:Int):RJ 200 tgt (d.arm f):=⟨h.on,h.more,h.room,h.rb⟩
theorem RJ.n{tgt:Int→Bt}{d:DD}(h:RJ 200 tgt d):d.n=200:=h.rb.1
section
variable {w:World} {G:Nat→Prop} {p:Nat} {d:DD}
end
theorem mR.block{w:World}{B:Nat}{A:Option Addr}{n c:Nat}{l:List Wr}(h:mR w B (.slice A n c) l):∀b o,A=some ⟨b,o,none⟩→B≤b∧b<w.heap.size:=by
 intro b o hA;subst hA;rcases h.2 with⟨hv,_⟩|⟨g,cap,cur,hv,hg,hh,_⟩
 ·cases hv
 ·simp only[Value.slice.injEq,Option.some.injEq,Addr.mk.injEq]at hv;obtain⟨⟨rfl,_⟩,_⟩:=hv;exact⟨hg,(Array.getElem?_eq_some_iff.1 hh).1⟩
theorem qcf.below{w w':World}{a:Option Addr}{zs:List q1D}(h:qcf w a zs)(hb:Below w.heap.size w w'):qcf w' a zs:=by
 intro i hi;obtain⟨b,o,h1,h2,h3,h4,h5,h6⟩:=h i hi;refine⟨b,o,h1,Nat.lt_of_lt_of_le h2 hb.size,?_,?_,?_,h6⟩
 ·rw[hb.cell (p:=⟨b,o+i*3,none⟩) h2];exact h3
 ·rw[hb.cell (p:=⟨b,o+i*3+1,none⟩) h2];exact h4
 ·rw[hb.cell (p:=⟨b,o+i*3+2,none⟩) h2];exact h5
end Go.Proofs.YtdagdllomphidaaGreatDoor.jr
namespace Go.Proofs.YtdagdllomphidaaGreatDoor.jr
open _root_.Go.Proofs.Tryz Go Go.RowKit dk wi
def Rest (d:DD):Prop:=d.n=200∧d.more=[]
theorem JJ.rest{tgt:Int→Bt}{d:DD}(h:JJ 200 tgt d):Rest d:=⟨h.n,h.more⟩
theorem RJ.rest{tgt:Int→Bt}{d:DD}(h:RJ 200 tgt d):Rest d:=⟨h.n,h.more⟩
end Go.Proofs.YtdagdllomphidaaGreatDoor.jr
namespace Go.Proofs.YtdagdllomphidaaGreatDoor.jr
open _root_.Go.Proofs.Tryz dk wi
def la:Bt:=rep 97 32
end Go.Proofs.YtdagdllomphidaaGreatDoor.jr
namespace Go.Proofs.YtdagdllomphidaaGreatDoor.jr
open _root_.Go.Proofs.Tryz Go Go.RowKit dk wi
theorem qet(w:World):Calls prog 41 #[.pointer none] w fun e w'=>e=.returned (.int .i64 1)∧w=w':=by
 go_enter func41,ntmps41;go_wp2_with (go_at_call 83;refine(qkh _).mono ?_;rintro e w' ⟨rfl,rfl⟩);go_ret;exact⟨rfl,rfl⟩
section
variable {most:Nat} {w:World} {B p:Nat} {d:DD}
end
end Go.Proofs.YtdagdllomphidaaGreatDoor.jr
namespace Go.Proofs.YtdagdllomphidaaGreatDoor.vt.pg
open _root_.Go.Proofs.Tryz Go Go.RowKit Go.Sort ib mt im sp
theorem rZ {W:World}{g:Nat}{v0 v1 v2 u0 u1 u2:Value}{t t':Tk}{ty:TypeId}(h:qg W g ty (mC u0 u1 u2 t')):qg (xN W g v0 v1 v2 t) g ty (mC v0 v1 v2 t):=by
 have h9:=((((((((h.ql 0 v0).ql 1 v1).ql 2 (.int .u64 (t.base.1:Int))).ql 3 (.int .u64 (t.base.2:Int))).ql 4 (.int .u64 (t.target.1:Int))).ql 5 (.int .u64 (t.target.2:Int))).ql 6 (.int .i64 t.next)).ql 7 (.int .i64 t.all)).ql 8 v2;simp only[mC,List.setIfInBounds_toArray,List.set_cons_succ,List.set_cons_zero]at h9;exact h9
theorem qsv{W:World}{g:Nat}{v0 v1 v2:Value}{t:Tk}(h:qg W g 98 (mC v0 v1 v2 t)):(loadVar 98 ⟨g,0,none⟩).run prog W=.ok (.agg (mC v0 v1 v2 t)) W :=
 run_loadVar_row W g 98 98 _ (0,0) _ h underlying98 rfl (by kernel_rfl)
theorem qeu{w:World}(A0 A1 A2:Option Addr)(n0 n1 n2 c0 c1 c2:Nat)(t:Tk):Calls prog 46 #[.agg (mC (.slice A0 n0 c0) (.slice A1 n1 c1) (.slice A2 n2 c2) t)] w fun e w'=>e=.returned (.agg (mC (.slice A0 n0 c0) (.slice A1 n1 c1) (.slice A2 n2 c2) t))∧Below w.heap.size w w':=by
 have hb1:=(Below.refl _ w).alloc (Nat.le_refl _) (.cells (mC (.slice A0 n0 c0) (.slice A1 n1 c1) (.slice A2 n2 c2) t) 93);have zO:=qg.new w 93 (mC (.slice A0 n0 c0) (.slice A1 n1 c1) (.slice A2 n2 c2) t);obtain⟨W1,hW1⟩:=QE (w.alloc (.cells (mC (.slice A0 n0 c0) (.slice A1 n1 c1) (.slice A2 n2 c2) t) 93));rw[hW1]at hb1 zO;have hb2:=(Below.refl _ W1).alloc (Nat.le_refl _) (.cells (mt.pg.mZ (.slice none 0 0) (.slice none 0 0)) 98);have hk2:=qg.new W1 98 (mt.pg.mZ (.slice none 0 0) (.slice none 0 0));obtain⟨W2,hW2⟩:=QE (W1.alloc (.cells (mt.pg.mZ (.slice none 0 0) (.slice none 0 0)) 98));rw[hW2]at hb2 hk2;have ik:=zO.below hb2;have m0:=ik.cell 0;have m1:=ik.cell 1;have m2:=ik.cell 2;have m3:=ik.cell 3;have m4:=ik.cell 4;have m5:=ik.cell 5;have m6:=ik.cell 6;have m7:=ik.cell 7;have m8:=ik.cell 8;have hml:=ik.lt;have a0:=hk2.cell 0;have a1:=hk2.cell 1;have a2:=hk2.cell 2;have a3:=hk2.cell 3;have a4:=hk2.cell 4;have a5:=hk2.cell 5;have a6:=hk2.cell 6;have a7:=hk2.cell 7;have a8:=hk2.cell 8;have f0:=hk2.frozen 0;have f1:=hk2.frozen 1;have f2:=hk2.frozen 2;have f3:=hk2.frozen 3;have f4:=hk2.frozen 4;have f5:=hk2.frozen 5;have f6:=hk2.frozen 6;have f7:=hk2.frozen 7;have f8:=hk2.frozen 8;have hal:=hk2.lt;simp only[mC,mt.pg.mZ,QA,QB,QC]at m0 m1 m2 m3 m4 m5 m6 m7 m8 a0 a1 a2 a3 a4 a5 a6 a7 a8;have hres:qg W2 W1.heap.size 98 (mC nlS nlS nlS zR):=hk2;have HF:Hid (qg (xN W2 W1.heap.size (.slice A0 n0 c0) (.slice A1 n1 c1) (.slice A2 n2 c2) t) W1.heap.size 98 (mC (.slice A0 n0 c0) (.slice A1 n1 c1) (.slice A2 n2 c2) t)∧Below w.heap.size w (xN W2 W1.heap.size (.slice A0 n0 c0) (.slice A1 n1 c1) (.slice A2 n2 c2) t)) :=
  ⟨rZ hres,dX (qc hb1 hb2) (by have:=zO.lt;omega)⟩
 unfold mC at hW1 ⊢;unfold mt.pg.mZ at hW2;clear hb1 zO hb2 hk2 ik hres;go_enter func46,ntmps46;go_upto_region 1 with fail;try rw[hW1]
 try rw[hW2]
 clear hW1 hW2;go_wp2_with fail;show bodyPost _ _ _ _ _ (xN W2 W1.heap.size (.slice A0 n0 c0) (.slice A1 n1 c1) (.slice A2 n2 c2) t);have hf:=HF.out;obtain⟨WE,hWE⟩:=QE (xN W2 W1.heap.size (.slice A0 n0 c0) (.slice A1 n1 c1) (.slice A2 n2 c2) t);rw[hWE]at hf ⊢;exact bodyPost_ret (v:=.agg (mC (.slice A0 n0 c0) (.slice A1 n1 c1) (.slice A2 n2 c2) t)) (im.zy rfl _ _ _ ⟨W1.heap.size,0,none⟩ _ rfl (qsv hf.1)) rfl ⟨rfl,hf.2⟩
theorem qwU(N:Nat)(room:Int):jr.dD (jr.rd (dk.DD.new N room).now 0)=none:=by
 have:jr.rd (dk.DD.new N room).now 0=dk.zz:=by
  show jr.rd (List.replicate N none) 0=dk.zz;unfold jr.rd;rw[jr.qaE];rfl
 rw[this];decide +kernel
theorem qev{o:Nat→Prop}{w:World}{pd:Nat}{d:DD}(h:dk.zA 1000 w o pd d)(zS:d.on=true)(hh:jr.dD (jr.rd d.now 0)=none)(hn:0<d.n):Calls prog 41 #[pt pd] w fun e w'=>e=.returned (.int .i64 8)∧Below w.heap.size w w':=by
 have HD:=QH h;have HP:=QH (jr.bA h);have HON:=QH zS;rw[zS]at HP;have HHD:=QH hh;clear h zS hh;go_enter func41,ntmps41;go_wp2_with (go_at_call 83;refine HP.out.mono ?_;rintro e w' ⟨rfl,rfl⟩);refine(jr.qiz 1000 w o pd d HD.out HON.out hn).mono ?_;intro e W1 yc;obtain⟨b1,⟨a,c,hq,rfl⟩|⟨hq,x,y,rfl⟩⟩:=jr.vg yc
 ·rw[HHD.out]at hq;cases hq
 ·have qV:=QH b1;clear b1 yc hq;go_wp2_with fail;go_ret;exact⟨rfl,zF qV.out _⟩
theorem qcg(w:World):Calls prog 12 #[.pointer none] w fun e w'=>e=.returned (.tuple #[.pointer none,.int .i64 1])∧Below w.heap.size w w':=by
 have HR:=QH (jr.qet w);go_enter func12,ntmps12;go_wp2_with fail;refine HR.out.mono ?_;rintro e W1 ⟨rfl,rfl⟩;go_wp2_with fail;go_ret2;exact⟨rfl,Below.refl _ _⟩
theorem qch{o:Nat→Prop}{w:World}{pd:Nat}(N:Nat)(room:Int)(h:dk.zA 1000 w o pd (dk.DD.new N room))(hN:0<N):Calls prog 12 #[pt pd] w fun e w'=>e=.returned (.tuple #[.pointer none,.int .i64 8])∧Below w.heap.size w w':=by
 have HR:=QH (qev h rfl (qwU N room) (by simp[dk.DD.n,dk.DD.new];omega));clear h;go_enter func12,ntmps12;go_wp2_with fail;refine HR.out.mono ?_;rintro e W1 ⟨rfl,hb⟩;have HB:=QH hb;clear hb HR;go_wp2_with fail;go_ret2;exact⟨rfl,HB.out⟩
theorem qoT{b N:Nat}{m:Mt}(h:yD b N m)(h0:m.tok.target=(0,0)):m.tok=zR:=by
 rcases h.tok with ht|ht
 ·exact ht
 ·exfalso;have e2:=ht.2.1;rw[h0]at e2;unfold mt.above at e2;simp at e2
theorem qew{o:Nat→Prop}{w:World}{pd N b:Nat}{d:DD}{t:Tg}{m:Mt}(h:dk.zA 1000 w o pd d)(iJ:xL w)(hog:¬ o gN)(hJ:jr.RJ N t d)(hf:d.qu=0)(hR:qW b N t m) :
    Calls prog 12 #[pt pd] w fun e w'=>∃v d' dJ wW,e=.returned (.tuple #[pt v,.int .i64 0])∧VP jL w' dJ wW v pd d' m false∧jr.JJ N t d'∧d'.qu=0∧ib.qz o w w'∧(∀j,dJ j→w.heap.size≤j)∧∀j,wW j→o j∨w.heap.size≤j:=by
 have hdn:d.n=N:=hJ.rb.1;have qus:145<d.n:=by rw[hdn];have:=hR.N0;omega
 have HRC:=QH (jr.tE jr.qiz h qus iJ (by rw[hJ.more];decide) (by decide));have HRA:Hid ((jr.xm d).1=0∧jr.JJ N t (jr.xm d).2∧(jr.xm d).2.qu=0):=by
  rcases jr.qds hJ (by omega)with⟨h1,h2,h3,_⟩|⟨_,_,h3,_⟩
  ·exact⟨h1,h2,h3 hf⟩
  ·exact absurd hf h3
 obtain⟨RC,hRC⟩:=QE (jr.xm d);rw[hRC]at HRC HRA;obtain⟨r,d1⟩:=RC;have hr0:r=0:=HRA.out.1;subst hr0;have dK:=QH iJ;have HOG:=QH hog;have HR:=QH hR;clear h hJ hf hR hRC hdn qus iJ hog;go_enter func12,ntmps12;go_wp2_with fail;refine HRC.out.mono ?_;rintro e W1 ⟨rfl,o2,hd1,hb1,hg1⟩;have HD1:=QH hd1;have qV:Hid (ib.qz o w W1):=pN hb1;have HG1:Hid (∀j,o2 j→o j∨w.heap.size≤j):=hg1;have qkG:xL W1:=wK dK.out qV.out.size (qV.out.block gN (zP dK.out) HOG.out);have q1F:=QH qkG;have hR:=HR.out;have htx:=qgH hd1 qkG HRA.out.2.1 hR.N0 (u:=zG m) (by have:=hR.ok.size hR.N1;omega) (xT hR.ok hR.N1).2 hR.home;have HTX:=QH htx;clear hd1 hb1 hg1 qkG htx HRC;go_wp2_with fail;refine HTX.out.mono ?_;rintro e W2 ⟨rfl,hb2⟩;have qC:=QH hb2;have hdc:=qrt (str (zG m)) W2 (by rw[qT];have:=hR.ok.size hR.N1;omega) m (by rw[zh];exact hR.ok.back hR.N1);have HDC:=QH hdc;obtain⟨S,hS⟩:=QE (str (zG m));rw[hS]at HDC ⊢;clear hb2 hdc hS HTX hR;go_wp2_with fail;refine HDC.out.mono ?_;rintro e W3 ⟨A0,A1,A2,c0,c1,c2,rfl,hT,hb3⟩;have dF:=QH hT.bound;have qZ:=QH hb3;have hb4:=(Below.refl _ W3).alloc (Nat.le_refl _) (.cells (mt.pg.mZ (.slice none 0 0) (.slice none 0 0)) 93);have hk4:=qg.new W3 93 (mt.pg.mZ (.slice none 0 0) (.slice none 0 0));obtain⟨W4,sW⟩:=QE (W3.alloc (.cells (mt.pg.mZ (.slice none 0 0) (.slice none 0 0)) 93));rw[sW]at hb4 hk4;have a0:=hk4.cell 0;have a1:=hk4.cell 1;have a2:=hk4.cell 2;have a3:=hk4.cell 3;have a4:=hk4.cell 4;have a5:=hk4.cell 5;have a6:=hk4.cell 6;have a7:=hk4.cell 7;have a8:=hk4.cell 8;have f0:=hk4.frozen 0;have f1:=hk4.frozen 1;have f2:=hk4.frozen 2;have f3:=hk4.frozen 3;have f4:=hk4.frozen 4;have f5:=hk4.frozen 5;have f6:=hk4.frozen 6;have f7:=hk4.frozen 7;have f8:=hk4.frozen 8;have hal:=hk4.lt;simp only[mt.pg.mZ,QA,QB,QC]at a0 a1 a2 a3 a4 a5 a6 a7 a8;have hres:qg W4 W3.heap.size 93 (mC nlS nlS nlS zR):=hk4;have HF:Hid (qg (xN W4 W3.heap.size (.slice A0 m.live.length c0) (.slice A1 m.qa.length c1) (.slice A2 m.tok.qo.length c2) m.tok) W3.heap.size 93 (mC (.slice A0 m.live.length c0) (.slice A1 m.qa.length c1) (.slice A2 m.tok.qo.length c2) m.tok)∧Below W3.heap.size W3 (xN W4 W3.heap.size (.slice A0 m.live.length c0) (.slice A1 m.qa.length c1) (.slice A2 m.tok.qo.length c2) m.tok)) :=
  ⟨rZ hres,dX hb4 (Nat.le_refl _)⟩
 unfold mt.pg.mZ at sW;unfold zq;clear hb3 hT hb4 hk4 hres HDC;go_upto_region 8 with fail;try rw[sW]
 show Code.wp _ _ _ _ (xN W4 W3.heap.size (.slice A0 m.live.length c0) (.slice A1 m.qa.length c1) (.slice A2 m.tok.qo.length c2) m.tok);obtain⟨W5,iF⟩:=QE (xN W4 W3.heap.size (.slice A0 m.live.length c0) (.slice A1 m.qa.length c1) (.slice A2 m.tok.qo.length c2) m.tok);rw[iF]at HF ⊢;clear sW iF a0 a1 a2 a3 a4 a5 a6 a7 a8 f0 f1 f2 f3 f4 f5 f6 f7 f8 hal;have hblk:=HF.out.1;have b35:=HF.out.2;have qoU:=QH (qc (qc qC.out qZ.out) b35);have eY:=QH (dF.out.below b35);have HD5:=QH (HD1.out.below qoU.out);have k0:=hblk.cell 0;have k1:=hblk.cell 1;have k2:=hblk.cell 2;have k3:=hblk.cell 3;have k4:=hblk.cell 4;have k5:=hblk.cell 5;have k6:=hblk.cell 6;have k7:=hblk.cell 7;have k8:=hblk.cell 8;have bE:=hblk.lt;simp only[mC,QA,QB,QC]at k0 k1 k2 k3 k4 k5 k6 k7 k8;have e0:=fun d os=>cell_regrown k0 d os;have e1:=fun d os=>cell_regrown k1 d os;have e2:=fun d os=>cell_regrown k2 d os;have e3:=fun d os=>cell_regrown k3 d os;have e4:=fun d os=>cell_regrown k4 d os;have e5:=fun d os=>cell_regrown k5 d os;have e6:=fun d os=>cell_regrown k6 d os;have e7:=fun d os=>cell_regrown k7 d os;have e8:=fun d os=>cell_regrown k8 d os;have hR:=HR.out;have hlen:m.live.length=b:=hR.ok.len;have hdn:d1.n=N:=HRA.out.2.1.rb.1;have cL:∀b os,Calls prog 45 #[pt pd] (grow (redrawn W5 b) os) fun e w''=>e=.returned (.int .i64 (N:Int))∧∃q:Regrown,w''=grow (redrawn W5 q.d) q.os :=
  fun b os=>Calls.regrown_of ((ia (HD5.out.below (below_regrown W5 b os))).mono fun e w' hx=>⟨by rw[← hdn];exact hx.1,by rw[← hx.2];exact Below.refl _ _⟩)
 have cC:∀b os,Calls prog 44 #[.agg (zq A0 A1 A2 c0 c1 c2 m),.int .i64 (m.live.length:Int),.int .i64 (N:Int)] (grow (redrawn W5 b) os) fun e w''=>e=.returned (.int .i64 0)∧∃q:Regrown,w''=grow (redrawn W5 q.d) q.os :=
  fun b os=>by
   have hc:=mt.pg.qaf (.agg (zq A0 A1 A2 c0 c1 c2 m)) m (m.live.length:Int) (N:Int) (grow (redrawn W5 b) os) ⟨A0,A1,A2,c0,c1,c2,rfl,(eY.out.below (below_regrown W5 b os)).mt⟩ (nR hR.ok) (by unfold qG;have:=hR.ok.b8;omega) (by unfold qG;have:=hR.N1;omega);have h0:xw m (m.live.length:Int) (N:Int)=0:=by rw[hlen];exact hR.ok.check
   rw[h0]at hc;exact Calls.regrown_of hc
 have q1H:=QH hblk;unfold zq at cC;clear hblk b35 hlen hdn hR;refine wp_region_quiet_below vY (by kernel_rfl) ?_;repeat (any_goals (first|go_big_quiet_step (first|exact cL _ _|exact cC _ _)|quiet_step (first|exact cL _ _|exact cC _ _)))
 refine wpQuiet_nil ?_;intro _ hw';obtain⟨⟨dq,osq⟩,hw''⟩:=hw';subst hw'';have kV:=below_regrown W5 dq osq;have dH:=QH kV;have hblk:=q1H.out.below kV;clear kV e0 e1 e2 e3 e4 e5 e6 e7 e8 k0 k1 k2 k3 k4 k5 k6 k7 k8 bE cL cC q1H;generalize grow (redrawn W5 dq) osq=W6 at *;have k0:=hblk.cell 0;have k1:=hblk.cell 1;have k2:=hblk.cell 2;have k3:=hblk.cell 3;have k4:=hblk.cell 4;have k5:=hblk.cell 5;have k6:=hblk.cell 6;have k7:=hblk.cell 7;have k8:=hblk.cell 8;have bE:=hblk.lt;simp only[mC,QA,QB,QC]at k0 k1 k2 k3 k4 k5 k6 k7 k8;have HTO:=QH (qeu (w:=W6) A0 A1 A2 m.live.length m.qa.length m.tok.qo.length c0 c1 c2 m.tok);unfold mC at HTO;clear hblk;go_wp2_with fail;refine HTO.out.mono ?_;rintro e W7 ⟨rfl,iH⟩;have HB7:=QH (qc dH.out iH);have hb8:=(Below.refl _ W7).alloc (Nat.le_refl _) (.cells (vC A0 A1 A2 c0 c1 c2 m pd false) 101);have hk8:=qg.new W7 101 (vC A0 A1 A2 c0 c1 c2 m pd false);obtain⟨W8,hW8⟩:=QE (W7.alloc (.cells (vC A0 A1 A2 c0 c1 c2 m pd false) 101));rw[hW8]at hb8 hk8;have HB8:=QH (qc HB7.out hb8);have qkH:=QH (qc qoU.out HB8.out);have HK8:=QH hk8;have iX:Hid (W1.heap.size≤W2.heap.size∧W2.heap.size≤W3.heap.size∧W3.heap.size≤W5.heap.size∧W5.heap.size≤W7.heap.size∧W7.heap.size<W8.heap.size):=⟨qC.out.size,qZ.out.size,HF.out.2.size,HB7.out.size,hk8.lt⟩;unfold vC at hW8;clear iH hb8 hk8 HTO k0 k1 k2 k3 k4 k5 k6 k7 k8 bE;go_wp2_with fail;try rw[hW8]
 clear hW8;go_ret2;have hR:=HR.out;have hsz:=iX.out;have h1s:=qV.out.size;have xP:∀j,o2 j→j<W1.heap.size:=fun j hj=>cU HD1.out j hj;have hgn:gN<w.heap.size:=zP dK.out;have hg2:¬ o2 gN:=fun h=>by
  rcases HG1.out gN h with h|h
  ·exact HOG.out h
  ·omega
 refine⟨W7.heap.size,d1,fun j=>w.heap.size≤j∧j<W8.heap.size∧¬ o2 j,o2,rfl,⟨⟨A0,A1,A2,c0,c1,c2,HK8.out,?_,nR hR.ok,xi q1F.out qkH.out (zP q1F.out),⟨by omega,by omega,fun h=>by have:=xP _ h;omega⟩,fun j hj=>hj.2.1,by omega,qoT hR.ok⟩,HD1.out.below qkH.out,fun j hj=>?_⟩,HRA.out.2.1,HRA.out.2.2,?_,fun j hj=>hj.1,fun j hj=>HG1.out j hj⟩
 ·refine(dF.out.below HF.out.2).mono (G':=fun j=>(w.heap.size≤j∧j<W8.heap.size∧¬ o2 j)∧j≠W7.heap.size) (fun j hj=>⟨⟨by omega,by omega,fun h=>by have:=xP _ h;omega⟩,by omega⟩) |>.below HB8.out
 ·rcases hj with hj|hj
  ·exact hj.2.2
  ·rw[hj];exact hg2
 ·exact qV.out.trans (S':=fun _=>False) (ib.qz.of_below qkH.out) (fun _ h=>h.elim)
end Go.Proofs.YtdagdllomphidaaGreatDoor.vt.pg
namespace Go.Proofs.YtdagdllomphidaaGreatDoor.dk
open _root_.Go.Proofs.Tryz Go Go.RowKit
theorem qci{P:Program}{ρ:Operand→Value}{o:Oper}{w w':World}{vx vy v':Value}{t:TypeId}(x y:Operand)(ho:o.op=.call { callee:=.builtin .append,args:=#[x,y],argTypes:=#[t,t] })(ht:o.type=t)(hx:ρ x=vx)(hy:ρ y=vy)
    (hrun:(Builtin.append_ #[t,t] t #[vx,vy]).run P w=.ok v' w'):(execOp ρ o).run P w=.ok (.value v') w':=by
 simp[execOp,ho,resolve,invoke,builtin,hx,hy,ht,hrun,Result.andThen]
theorem zI.twin{w w':World}{m n:Nat}{s:qB}(h:zI w m s):∃es clock,w.heap[m]?=some (.map es clock)∧∀(w':World) (n:Nat),w'.heap[n]?=some (.map es clock)→zI w' n s:=by
 obtain⟨D,⟨es,clock,h1,h2⟩,h3⟩:=h;exact⟨es,clock,h1,fun w' n hn=>⟨D,⟨es,clock,hn,h2⟩,h3⟩⟩
theorem qhi(b:Nat)(es:Array MapEntry)(clock:Nat)(w:World)(hb:w.heap[b]?=some (.map es clock)) :
    Calls prog 118 #[.map (some b)] w fun e w'=>e=.returned (.map (some w.heap.size))∧w'=w.alloc (.map es clock):=by
 have hq:=fun w=>run_eql_map_nil_sl (P:=prog) w 104 _ _ (some b) underlying104;go_enter func118,ntmps118;go_wp2;rw[run_callFunc_extern func173 (by kernel_rfl) (by kernel_rfl) (by kernel_rfl) (e:=Extern.MapsClone.clone) (by kernel_rfl),run_maps_clone_sl w 104 hb];simp only[Result.andThen];rw[Oper.upon_value];go_wp2;rw[run_typeAssert_map_sl _ 104 _ _ _ _ underlying104];simp only[Result.andThen];rw[Oper.upon_value];go_wp2;go_ret;exact⟨rfl,rfl⟩
theorem qex{ρ:Operand→Value}{o:Oper}{w:World}(ho:o.op=.buildSlice 105 0 #[]) :
    (execOp ρ o).run prog w=.ok (.value (.slice (some ⟨w.heap.size,0,none⟩) 0 0)) (w.alloc (.cells #[] 125)):=by
 unfold execOp;rw[ho];go_simp
theorem nT (w:World)(a:Option Addr)(n c:Nat):(binOp .eql 105 (.slice a n c) (.slice none 0 0)).run prog w=.ok (.bool a.isNone) w:=by
 simp only[binOp];simp[run_equal_slice_nil _ _ _ _ _ _ underlying105]
def qhj (n:Nat)(xs:List Value)(w:World)(e:Ending)(w':World):Prop:=∃v',e=.returned v'∧w'.ownsRow w.heap.size 125 66 v' n xs∧Below w.heap.size w w'
theorem cZ (w:World)(v:Value)(n:Nat)(xs:List Value)(h:w.ownsRow 0 125 66 v n xs)(h1:∀u∈xs,u.oneCell'=true)(hn:n≤100000) :
    Calls prog 119 #[v] w (qhj n xs w):=by
 have hown:=h;rcases h.2 with⟨rfl,h0⟩|⟨g,cap,cur,rfl,hg,hh,hc,hm,hcs,xo⟩
 ·subst h0;have hx:xs=[]:=by have:=h.1;simpa using this
  subst hx;have hq:=fun w=>nT w none 0 0;clear hown h;go_enter func119,ntmps119;go_wp2_with fail;go_ret;exact⟨_,rfl,World.ownsRow_nil _ _ _ _,Below.refl _ _⟩
 ·obtain⟨i0,hi,hz0,hz1,hz2⟩:=info_parts qfO;have hcell:∀(j:Nat) (u:Value),xs[j]?=some u→(w.alloc (.cells #[] 125)).cell? ((⟨g,0,none⟩:Addr).add j)=some u:=by
   intro j u hu;rw[addr_add,Nat.zero_add];have hj:j<xs.length:=(List.getElem?_eq_some_iff.1 hu).1;have:=World.ownsRow.cellAt hown j (by rw[← hown.1];exact hj);rw[World.cell?_of_block (a:=⟨g,j,none⟩) (Below.heap_alloc w _ g (Array.getElem?_eq_some_iff.1 hh).1),this];exact hu
  obtain⟨v',w',hrun,h2,h3,_⟩:=run_append_own (P:=prog) (w.alloc (.cells #[] 125)) w.heap.size 105 105 125 i0 _ 66 80 underlying105 hi hz0 hz1 hz2 (by simp[Value.cells,zf,qJ]) (by decide) (.slice (some ⟨w.heap.size,0,none⟩) 0 0) 0 [] (World.ownsRow_made w #[] 0 (Nat.le_refl _) (by decide) rfl) ⟨g,0,none⟩ n cap xs h.1 hcell h1 (by unfold maxLen;omega) (by omega) (by simp);rw[Nat.zero_add,List.nil_append]at h2;have HR:=QH hrun;have H2:=QH h2;have H3:=QH h3;clear hown h hcell h1 hrun h2 h3 hi hz0 hz1 hz2 hcs xo hh;have hq:=fun w=>nT w (some ⟨g,0,none⟩) n cap;go_enter func119,ntmps119;go_wp2_with (first|(refine qf rfl (qex rfl) ?_)|(refine qf rfl (qci (.tmp 5) (.tmp 6) rfl rfl rfl rfl HR.out) ?_));go_ret;refine⟨_,rfl,H2.out,?_⟩;have hb:Below w.heap.size w (w.alloc (.cells #[] 125)):=(Below.refl _ _).alloc (Nat.le_refl _) _;exact hb.grown H3.out hb.size (fun k hk=>by simp[Value.ownBlock]at hk;omega)
theorem qwX:(prog.info? 107).map (·.size)=some 6:=by kernel_rfl
def qhk (most:Nat)(d:DD)(w:World)(e:Ending)(w':World):Prop :=
 ∃q own,e=.returned (.pointer (some ⟨q,0,none⟩))∧zA most w' own q d∧Below w.heap.size w w'∧∀k,own k→w.heap.size≤k
section
variable {w:World} {own:Nat→Prop} {p:Nat} {d:DD}
theorem sf {most:Nat}(h:zA most w own p d)(yZ:most≤100000) :
    Calls prog 75 #[.pointer (some ⟨p,0,none⟩)] w (qhk most d w):=by
 obtain⟨h0,m,v,h1⟩:=h;have H0:=QH h0;have H1:=QH h1;have hml:d.more.length≤100000:=Nat.le_trans h0.oH yZ;have HML:=QH hml;have HON:Hid (∀u∈yY (ji d.base d.more),u.oneCell'=true):=by
  intro u hu;simp only[yY,List.mem_flatMap]at hu;obtain⟨x,_,hu⟩:=hu;exact dY x u hu
 obtain⟨c0,c1,c2,c3,c4,c5⟩:=jP h1.1;obtain⟨V,cv,hA⟩:=yl h1.2.2.1;have qey:=h1.1.lt;obtain⟨es,clock,hm,hmk⟩:=h1.2.1.twin (w':=w) (n:=0);have HM:=QH hm;have HMK:=QH hmk;subst hA;clear h0 h1 yZ hml hm hmk;go_enter func75,ntmps75;go_wp2_with (refine wpList_skip rfl (qU w 107 _ #[.int .i64 (d.n:Int),.int .i64 d.room,.map (some m),.slice V d.more.length cv,.bool d.on,.int .i64 d.qu] (.tmp 3) (.tmp 8) rfl rfl rfl (by rw[qwX];rfl) rfl (by rfl)) ?_);have sX:Hid (qg (w.alloc (.cells #[.int .i64 (d.n:Int),.int .i64 d.room,.map (some m),.slice V d.more.length cv,.bool d.on,.int .i64 d.qu] 107)) w.heap.size 107 #[.int .i64 (d.n:Int),.int .i64 d.room,.map (some m),.slice V d.more.length cv,.bool d.on,.int .i64 d.qu]):=qg.new _ _ _;have qV:Hid (Below w.heap.size w (w.alloc (.cells #[.int .i64 (d.n:Int),.int .i64 d.room,.map (some m),.slice V d.more.length cv,.bool d.on,.int .i64 d.qu] 107))):=(Below.refl _ _).alloc (Nat.le_refl _) _;generalize w.alloc (.cells #[.int .i64 (d.n:Int),.int .i64 d.room,.map (some m),.slice V d.more.length cv,.bool d.on,.int .i64 d.qu] 107)=X1 at *;clear c0 c1 c2 c3 c4 c5;obtain⟨q,hq⟩:∃q,q=w.heap.size:=⟨_,rfl⟩;rw[← hq]at sX ⊢;have HQ:=QH hq;clear hq;refine(qhi m es clock X1 ((qV.out.block m (Array.getElem?_eq_some_iff.1 HM.out).1).trans HM.out)).mono ?_;rintro e W2 ⟨rfl,rfl⟩;have sK:Hid (qg (X1.alloc (.map es clock)) q 107 #[.int .i64 (d.n:Int),.int .i64 d.room,.map (some m),.slice V d.more.length cv,.bool d.on,.int .i64 d.qu]):=sX.out.of_block (Below.heap_alloc _ _ _ sX.out.lt);have qC:Hid (Below w.heap.size w (X1.alloc (.map es clock))):=qV.out.alloc qV.out.size _;have HM2:Hid (zI (X1.alloc (.map es clock)) X1.heap.size d.now):=HMK.out _ _ (heap_alloc_new _ _);have HQM:Hid (q<X1.heap.size):=sX.out.lt;obtain⟨m2,hm2⟩:∃x,x=X1.heap.size:=⟨_,rfl⟩;rw[← hm2]at HM2 HQM ⊢;have zeb:Hid (m2<(X1.alloc (.map es clock)).heap.size):=HM2.out.lt;clear hm2;generalize X1.alloc (.map es clock)=X2 at *;obtain⟨q0,q1,q2,q3,q4,q5⟩:=jP sK.out;have fq:=sK.out.frozen 2;have mL:=sK.out.lt;obtain⟨s0,s1,s2,s3,s4,s5⟩:=jP (H1.out.keep qC.out.size (fun k hk=>qC.out.block k (H1.out.2.2.2.2.2.2 k hk))).1;have hpl:p<X2.heap.size:=Nat.lt_of_lt_of_le qey qC.out.size;have hpq:p<q:=by rw[HQ.out];exact qey
 go_wp2_with fail;have HP3:Hid (qg (X2.setCell ⟨q,2,none⟩ (.map (some m2))) q 107 #[.int .i64 (d.n:Int),.int .i64 d.room,.map (some m2),.slice V d.more.length cv,.bool d.on,.int .i64 d.qu]):=sK.out.ql 2 _;have qZ:Hid (Below w.heap.size w (X2.setCell ⟨q,2,none⟩ (.map (some m2)))):=qC.out.setCell (by rw[HQ.out];exact Nat.le_refl _) _;have HM3:Hid (zI (X2.setCell ⟨q,2,none⟩ (.map (some m2))) m2 d.now):=HM2.out.of_block (zV _ _ _ _ _ (Nat.ne_of_gt HQM.out));generalize X2.setCell ⟨q,2,none⟩ (.map (some m2))=X3 at *;clear q0 q1 q2 q3 q4 q5 fq mL s0 s1 s2 s3 s4 s5 hpl;have quu:X3.ownsRow 0 125 66 (.slice V d.more.length cv) d.more.length (yY (ji d.base d.more)):=(H1.out.keep qZ.out.size (fun k hk=>qZ.out.block k (H1.out.2.2.2.2.2.2 k hk))).2.2.1;refine(cZ X3 _ _ _ quu HON.out HML.out).mono ?_;rintro e W4 ⟨v4,rfl,ho4,hb4⟩;obtain⟨A4,c4,rfl⟩:=yl ho4;have HO4:=QH ho4;have x9:=QH hb4;clear quu ho4 hb4;have HP4:Hid (qg W4 q 107 #[.int .i64 (d.n:Int),.int .i64 d.room,.map (some m2),.slice V d.more.length cv,.bool d.on,.int .i64 d.qu]):=HP3.out.of_block (x9.out.block q HP3.out.lt);obtain⟨q0,q1,q2,q3,q4,q5⟩:=jP HP4.out;have fq:=HP4.out.frozen 3;have mL:=HP4.out.lt;go_wp2_with fail;go_ret;have hq3:=HP3.out.lt;have hm3:=HM3.out.lt;have hx3:=qZ.out.size;have qm:=HQM.out;have qq:=HQ.out;have h4:=x9.out.size;refine⟨q,fun k=>w.heap.size≤k∧k<W4.heap.size,rfl,⟨H0.out,m2,.slice A4 d.more.length c4,?_⟩,?_,fun k hk=>hk.1⟩
 ·refine⟨HP4.out.ql 3 _,(HM3.out.of_block (x9.out.block m2 hm3)).of_block (zV _ _ _ _ _ (Nat.ne_of_gt qm)),?_,⟨by omega,by omega⟩,⟨by omega,by omega⟩,fun j hj=>?_,fun k hk=>by rw[size_set];exact hk.2⟩
  ·have h5:(W4.setCell ⟨q,3,none⟩ (.slice A4 d.more.length c4)).ownsRow X3.heap.size 125 66 (.slice A4 d.more.length c4) d.more.length (yY (ji d.base d.more)):=zm HO4.out (fun j hj=>zV _ _ _ _ _ (by have h:=(HO4.out.lt j hj).1;omega));obtain⟨h1,h2⟩:=h5;refine⟨h1,?_⟩;rcases h2 with h2|⟨g,cap,cur,e1,_,e3⟩
   ·exact .inl h2
   ·exact .inr ⟨g,cap,cur,e1,Nat.zero_le _,e3⟩
  ·have h:=HO4.out.lt j hj;exact⟨Nat.le_trans hx3 h.1,h.2⟩
 ·exact(qZ.out.trans (x9.out.mono qZ.out.size)).setCell (by rw[qq];exact Nat.le_refl _) _
end
end Go.Proofs.YtdagdllomphidaaGreatDoor.dk
namespace Go.Proofs.YtdagdllomphidaaGreatDoor.vt.pg
open _root_.Go.Proofs.Tryz Go Go.RowKit Go.Sort ib mt im sp
theorem qez{b N:Nat}(h1:1≤b)(h8:b≤8):yD b N (m0 b):=by
 refine⟨h1,h8,⟨by simp[m0],fun z hz=>.inl (by simp[m0]at hz;exact hz.2),fun i j _ hj _=>?_⟩,by simp[m0],fun s hs=>by simp[m0]at hs,trivial,.inl rfl,⟨fun s hs=>by simp[m0]at hs,by simp[m0,zR,xn],by simp[m0,zR,xn]⟩⟩;have hl:(m0 b).live=List.replicate b 0:=rfl;unfold pl;rw[hl];simp[List.getD,List.getElem?_replicate];split <;> rfl
theorem aM:∀(ss:List Bt) (o:Nat),((jr.zk o ss).map (·.1)).Nodup
 | [],o=>by simp[jr.zk]
 | s::r,o=>by
  unfold jr.zk;rw[List.map_cons,List.nodup_cons];refine⟨fun h=>?_,aM r (o+1)⟩;obtain⟨x,hx,e⟩:=List.mem_map.1 h;have:=(na hx).1;dsimp only at e;omega
def fw (b:Nat):List Wr:=jr.zk 145 (xH (m0 b))
def ft (b:Nat):Tg:=jr.over (fun _=>dk.zz) (fw b)
theorem qcj{b N:Nat}(h1:1≤b)(h8:b≤8)(hN:193≤N)(mG:N≤1024):∀x∈fw b,145≤x.1∧x.1<(N:Int)∧x.2.length=32:=by
 intro x hx;have h48:=(xT (qez (N:=N) h1 h8) mG).2;obtain⟨i,hi,e1,e2⟩:=jr.jE _ _ _ hx;rw[List.getElem?_eq_getElem hi]at e2;have e3:=Option.some.inj e2;exact⟨by omega,by omega,by rw[← e3];exact qdx _ _ (List.getElem_mem hi)⟩
theorem qwY{b N:Nat}(h1:1≤b)(h8:b≤8)(hN:193≤N)(mG:N≤1024):jr.p9 N (fw b)=0:=by
 have h48:=(xT (qez (N:=N) h1 h8) mG).2;have hl:(fw b).length≤48:=by unfold fw;rw[jr.zg];exact h48
 have hp:jr.vU N (fw b)=true:=by
  unfold jr.vU;have hf:=ax (fw b) [] (by simpa[fw]using aM (xH (m0 b)) 145);rw[hf];simp only[List.nil_append,List.length_map,decide_true,Bool.and_true,List.all_eq_true];intro x hx;obtain⟨h1,h2,h3⟩:=qcj h1 h8 hN mG x hx;unfold jr.okW;simp;exact⟨⟨h1,h2⟩,h3⟩
 unfold jr.p9;split
 ·rfl
 ·rw[if_neg (by omega),hp];simp
theorem qwZ{b N:Nat}(h1:1≤b)(h8:b≤8)(hN:193≤N)(mG:N≤1024):qW b N (ft b) (m0 b):=by
 refine⟨qez h1 h8,hN,mG,fun i hi=>?_,py _ _ (fun k _=>dk.qJ) fun x hx=>(qcj h1 h8 hN mG x hx).2.2⟩;have hm:(((145+i:Nat):Int),(xH (m0 b))[i])∈fw b:=by
  have key:∀(ss:List Bt) (o i:Nat) (hi:i<ss.length),(((o+i:Nat):Int),ss[i])∈jr.zk o ss:=by
   intro ss
   induction ss with
   | nil=>intro o i hi;simp at hi
   | cons s r ih =>
    intro o i hi;unfold jr.zk;cases i with
    | zero=>simp
    | succ j =>
     rw[List.getElem_cons_succ,show o+(j+1)=o+1+j by omega];exact List.mem_cons_of_mem _ (ih (o+1) j (by simpa using hi))
  exact key _ 145 i hi
 exact nM _ _ _ hm (aM _ _)
theorem qkI(N:Nat)(room:Int)(hN:145<N)(hr:(N:Int)≤room):(jr.uo (dk.DD.new N room)).1=0∧jr.JJ N (fun _=>dk.zz) (jr.uo (dk.DD.new N room)).2∧(jr.uo (dk.DD.new N room)).2.qu=0:=by
 have hn:(dk.DD.new N room).n=N:=by simp[dk.DD.n,dk.DD.new]
 have hgs:∀s∈jr.qH [[((0:Int),jr.kW 0 0)]],jr.mF (dk.DD.new N room).n s:=by
  rw[hn];refine jr.gC fun l hl x hx=>?_;obtain rfl:l=[(0,jr.kW 0 0)]:=by simpa using hl
  obtain rfl:x=(0,jr.kW 0 0):=by simpa using hx
  exact⟨by simp,by simp;omega,(jr.uP (by decide) (by decide)).1⟩
 have e:jr.uo (dk.DD.new N room)=(0,jr.mk (dk.DD.new N room) (dk.qO (List.replicate N none) [(0,jr.kW 0 0)],[]) true 0):=by
  unfold jr.uo;rw[if_neg (by simp[dk.DD.new]),if_neg (by rw[hn];omega),jr.fB _ (dk.DD.new N room) rfl (Int.le_refl _) (by rw[hn];exact hr) hgs (.inl rfl)];have:((dk.DD.new N room).base,(dk.DD.new N room).more)=(List.replicate N none,[]):=rfl;rw[this,jr.bp];rfl
 rw[e];have hk:∀k,145≤k→jr.rd (dk.qO (List.replicate N none) [(0,jr.kW 0 0)]) k=dk.zz:=fun k hk=>by
  rw[jr.jD _ _ _ (fun x hx=>by
   obtain rfl:x=(0,jr.kW 0 0):=by simpa using hx
   dsimp only;omega)]
  unfold jr.rd;rw[jr.qaE];rfl
 refine⟨rfl,⟨⟨rfl,rfl,hr,by show(dk.qO _ _).length=N;rw[dk.zw];simp,dk.wA (fun v hv=>by simp at hv) (fun x hx=>?_),0,0,[],?_,.inl ⟨rfl,rfl⟩,?_⟩,hk⟩,rfl⟩
 ·obtain rfl:x=(0,jr.kW 0 0):=by simpa using hx
  exact(jr.uP (by decide) (by decide)).1
 ·show jr.dD (jr.rd (dk.qO (List.replicate N none) [(0,jr.kW 0 0)]) 0)=_;have:jr.rd (dk.qO (List.replicate N none) [(0,jr.kW 0 0)]) 0=jr.kW 0 0:=by
   unfold jr.rd dk.qO;simp only[List.foldl_cons,List.foldl_nil,dk.put];have:=dk.zL (List.replicate N none) 0 (some (jr.kW 0 0)) (by simp;omega);rw[show((0:Int))=((0:Nat):Int)from rfl,this];rfl
  rw[this];exact(jr.uP (by decide) (by decide)).2.1
 ·exact hk
theorem lW {w w':World}{A:Option Addr}{l:List Wr}(h:jr.vd w A l)(hs:w.heap.size≤w'.heap.size)(hb:∀b o,A=some ⟨b,o,none⟩→b<w.heap.size→w'.heap[b]?=w.heap[b]?):jr.vd w' A l:=by
 intro i hi;obtain⟨b,o,h1,h2,h3,h4,h5⟩:=h i hi;have hk:=hb b o h1 h2;exact⟨b,o,h1,Nat.lt_of_lt_of_le h2 hs,(World.cell?_of_block (w:=w) (a:=⟨b,o+i*2,none⟩) hk).trans h3,(World.cell?_of_block (w:=w) (a:=⟨b,o+i*2+1,none⟩) hk).trans h4,h5⟩
theorem uk {o:Nat→Prop}{w:World}{p N b:Nat}{room:Int}(h:dk.zA 1000 w o p (dk.DD.new N room))(iJ:xL w)(hog:¬ o gN)(h1:1≤b)(h8:b≤8)(hN:193≤N)(mG:N≤1024)(hr:(N:Int)≤room){A:Option Addr}{c:Nat}(hA:jr.vd w A (fw b))(hAo:∀b o',A=some ⟨b,o',none⟩→¬ o b) :
    Calls prog 74 #[pt p,.slice A (fw b).length c] w fun e w'=>e=.returned (.int .i64 0)∧∃d' o',dk.zA 1000 w' o' p d'∧jr.JJ N (ft b) d'∧d'.qu=0∧ib.qz o w w'∧∀j,o' j→o j∨w.heap.size≤j:=by
 have HF:=QH (jr.qgG jr.qiy h (by simp[dk.DD.new]) (by decide));have HNR:=QH (qkI N room (by omega) hr);obtain⟨D0,hD0⟩:=QE (jr.uo (dk.DD.new N room));rw[hD0]at HF HNR;obtain⟨r0,d0⟩:=D0;have hr0:r0=0:=HNR.out.1;subst hr0;have dK:=QH iJ;have HOG:=QH hog;have HA:=QH hA;have HAO:=QH hAo;have q1I:=QH (qwY h1 h8 hN mG);have HLL:Hid ((fw b).length≤48):=by unfold Hid fw;rw[jr.zg];exact(xT (qez (N:=N) h1 h8) mG).2
 have HN:=QH (And.intro hN mG);have HFT:Hid (ft b=jr.over (fun _=>dk.zz) (fw b)):=rfl;obtain⟨l,hl⟩:=QE (fw b);rw[hl]at HA q1I HLL HFT ⊢;clear h iJ hog hA hAo h1 h8 hN mG hr hD0 hl;obtain⟨n,hn⟩:=QE l.length;have HNL:=QH hn;rw[hn];clear hn;go_enter func74,ntmps74;go_wp2_with fail;refine HF.out.mono ?_;rintro e W1 ⟨rfl,o1,hd1,hb1,hg1⟩;have qV:Hid (ib.qz o w W1):=pN hb1;have HG1:Hid (∀j,o1 j→o j∨w.heap.size≤j):=hg1;have q1J:d0.n=N:=HNR.out.2.1.rb.1;have hA1:=lW HA.out qV.out.size (fun b o' e hb=>qV.out.block b hb (HAO.out b o' e));have qkG:xL W1:=wK dK.out qV.out.size (qV.out.block gN (zP dK.out) HOG.out);have hcm:=jr.il jr.qiy jr.qiz hd1 (by rw[q1J];have:=HN.out;omega) A c l hA1 (by have:=HLL.out;omega) qkG (by rw[HNR.out.2.1.more];decide) (by decide);have lM:Hid ((jr.xf d0 l).1=0∧jr.JJ N (ft b) (jr.xf d0 l).2∧(jr.xf d0 l).2.qu=0):=by
  rcases jr.pj (N:=N) (tgt:=fun _=>dk.zz) (l:=l) (d:=d0) (by have:=HN.out;omega) HN.out.2 HNR.out.2.1 (by rw[HNR.out.2.2];exact Int.le_refl _) q1I.out with⟨g1,g2,g3,_⟩|⟨_,_,g3,_⟩
  ·exact⟨g1,by rw[HFT.out];exact g2,g3 HNR.out.2.2⟩
  ·exact absurd HNR.out.2.2 g3
 obtain⟨RC,hRC⟩:=QE (jr.xf d0 l);rw[hRC]at hcm lM;obtain⟨r1,d1⟩:=RC;have hr1:r1=0:=lM.out.1;subst hr1;rw[HNL.out]at hcm;have HCM:=QH hcm;clear hd1 hb1 hg1 q1J hA1 qkG hcm hRC HF;have hce:((0:Int) != 0)=false:=rfl;go_wp2_with fail;refine HCM.out.mono ?_;rintro e W2 ⟨rfl,o2,hd2,hb2,hg2⟩;have HD2:=QH hd2;have qC:Hid (ib.qz o1 W1 W2):=pN hb2;have HG2:Hid (∀j,o2 j→o1 j∨W1.heap.size≤j):=hg2;clear hd2 hb2 hg2 HCM;go_wp2_with fail;go_ret;have hs:=qV.out.size;refine⟨rfl,d1,o2,HD2.out,lM.out.2.1,lM.out.2.2,qV.out.trans qC.out (fun j hj=>HG1.out j hj),fun j hj=>?_⟩;rcases HG2.out j hj with hj|hj
 ·exact HG1.out j hj
 ·exact .inr (by omega)
theorem qsw{w:World}{B:Nat}{v:Value}{l:List Wr}(h:jr.mR w B v l):∀a n c,v=.slice a n c→∀b o s,a=some ⟨b,o,s⟩→B≤b:=by
 intro a n c hv b o s ha;rcases h.2 with⟨rfl,h0⟩|⟨g,cap,cur,rfl,hg,hh,hcc,hm,hcs,xo⟩
 ·cases hv;cases ha
 ·cases hv;cases ha;exact hg
theorem sg (b:Int)(w:World):Calls prog 28 #[.pointer none,.int .i64 b] w (ch.xU 1 w):=by
 go_enter func28,ntmps28;go_wp2_with fail;go_ret;exact⟨rfl,Below.refl _ _⟩
theorem si {o:Nat→Prop}{w:World}{pd:Nat}{d:DD}(b:Int)(h:dk.zA 1000 w o pd d)(hb:b<1∨8<b∨d.n<193):Calls prog 28 #[pt pd,.int .i64 b] w (ch.xU 2 w):=by
 have HL:=QH (ia h);clear h;by_cases h1:b<1
 ·clear hb;go_enter func28,ntmps28;go_wp2_with fail;go_ret;exact⟨rfl,Below.refl _ _⟩
 ·by_cases h8:8<b
  ·clear hb;go_enter func28,ntmps28;go_wp2_with fail;go_ret;exact⟨rfl,Below.refl _ _⟩
  ·have hn:(d.n:Int)<193:=by omega
   clear hb;go_enter func28,ntmps28;go_wp2_with fail;refine HL.out.mono ?_;rintro e W1 ⟨rfl,rfl⟩;go_wp2_with fail;go_ret;exact⟨rfl,Below.refl _ _⟩
theorem tH {o:Nat→Prop}{w:World}{pd:Nat}(b N:Nat)(room:Int)(h:dk.zA 1000 w o pd (dk.DD.new N room))(iJ:xL w)(hog:¬ o gN)(h1:1≤b)(h8:b≤8)(hN:193≤N)(mG:N≤1024)(hr:(N:Int)≤room) :
    Calls prog 28 #[pt pd,.int .i64 (b:Int)] w fun e w'=>e=.returned (.int .i64 0)∧∃t d' o',dk.zA 1000 w' o' pd d'∧jr.JJ N t d'∧qW b N t (m0 b)∧d'.qu=0∧ib.qz o w w'∧∀j,o' j→o j∨w.heap.size≤j:=by
 have hdn:(dk.DD.new N room).n=N:=by simp[dk.DD.n,dk.DD.new]
 have HL:=QH (ia h);rw[hdn]at HL;have kF:=(Below.refl w.heap.size w).alloc (Nat.le_refl _) (.cells (qi (List.replicate b 0)) 3);have hk:=qg.new w 3 (qi (List.replicate b 0));obtain⟨W1,hW1⟩:=QE (w.alloc (.cells (qi (List.replicate b 0)) 3));rw[hW1]at kF hk;have jV:yD b N (m0 b):=qez h1 h8;have hmt:MtL W1 (some ⟨w.heap.size,0,none⟩) none none b 0 0 (m0 b) :=
  ⟨⟨qg.nums hk (fun z hz=>by simp[m0]at hz;rw[hz.2];unfold qG;omega),by simp[m0],fun h=>by cases h⟩,jN.nil _ _,⟨Nat.le_refl _,fun _=>⟨rfl,rfl⟩⟩,yQ.none _,qep.base,qep.target,qep.next,qep.all⟩
 have hwr:=rf hmt (nR jV) (jV.enc mG) (jV.size mG) (xi iJ kF (zP iJ));have hme:zq (some ⟨w.heap.size,0,none⟩) none none b 0 0 (m0 b) = #[.slice (some ⟨w.heap.size,0,none⟩) b b,.slice none 0 0,.int .u64 0,.int .u64 0,.int .u64 0,.int .u64 0,.int .i64 0,.int .i64 0,.slice none 0 0]:=by simp[zq,m0,zR]
 rw[hme]at hwr;have HWR:=QH hwr;have qV:=QH kF;have HD:=QH h;have dK:=QH iJ;have HOG:=QH hog;have q7j:=QH (qwZ h1 h8 hN mG);have HEA:=QH (qcj h1 h8 hN mG);have HP:Hid (0<(fw b).length):=by unfold Hid fw;rw[jr.zg];exact(xT jV mG).1
 have qo7:Hid (∀(o:Nat→Prop) (w:World) (p:Nat),dk.zA 1000 w o p (dk.DD.new N room)→xL w→¬ o gN→∀(A:Option Addr) (c:Nat),jr.vd w A (fw b)→(∀b o',A=some ⟨b,o',none⟩→¬ o b) →
  Calls prog 74 #[pt p,.slice A (fw b).length c] w fun e w'=>e=.returned (.int .i64 0)∧∃d' o',dk.zA 1000 w' o' p d'∧jr.JJ N (ft b) d'∧d'.qu=0∧ib.qz o w w'∧∀j,o' j→o j∨w.heap.size≤j):=fun o w p hd hc ho A c hA hAo=>uk hd hc ho h1 h8 hN mG hr hA hAo
 have HN:=QH (And.intro hN mG);have g1:¬ (b:Int)<1:=by omega
 have g2:¬ (8:Int)<(b:Int):=by omega
 have g3:¬ (N:Int)<193:=by omega
 have que:b≤1000:=by omega
 clear h iJ hog kF hk jV hmt hwr hme hr hdn h1 h8 hN mG;go_enter func28,ntmps28;go_wp2_with fail;refine HL.out.mono ?_;rintro e W0 ⟨rfl,rfl⟩;go_wp2_with (at_make;refine qf rfl (cY _ _ b rfl rfl rfl (by omega)) ?_);try rw[hW1]
 clear hW1;go_wp2_with fail;refine HWR.out.mono ?_;rintro e W2 ⟨vl,rfl,hol,hb2⟩;have qxa:jr.mR W2 W1.heap.size vl (fw b):=hol;have hnew:=qsw qxa;have qC:=QH (qc qV.out hb2);obtain⟨A,ca,rfl,tv⟩:=qxa.view (fun x hx=>by have:=HEA.out x hx;have:=HN.out;unfold jr.qG;omega);have HWS:=QH tv;have qcR:Hid (∀b' o',A=some ⟨b',o',none⟩→w.heap.size≤b'∧b'<W2.heap.size):=fun b' o' e=>by
  have g1:=hnew A _ ca rfl b' o' none e;obtain⟨b'',o'',e2,g2,_⟩:=tv 0 HP.out;rw[e]at e2;injection e2 with e2
  injection e2 with e3 e4
  exact⟨Nat.le_trans qV.out.size g1,by rw[e3];exact g2⟩
 have HCP:=QH (dk.sf (HD.out.below qC.out) (by decide));have HLEN:Hid (jr.zk 145 (xH (m0 b))=fw b):=rfl;obtain⟨n,hn⟩:=QE ((fw b).length);rw[hn]at qo7;rw[hn];clear hol hb2 tv qxa hnew hn HWR;have hce:((0:Int) != 0)=false:=rfl;go_wp2_with fail;refine HCP.out.mono ?_;rintro e W3 ⟨q,ow,rfl,hdq,hb3,hlo⟩;have qZ:=QH (qc qC.out hb3);have hw3:=lW HWS.out hb3.size (fun b' o' e hb=>hb3.block b' hb);have q1K:=xi dK.out qZ.out (zP dK.out);have HLY:=QH (qo7.out ow W3 q hdq q1K (fun h=>by have g1:=hlo _ h;have g2:=zP dK.out;have g3:=qC.out.size;omega) A ca hw3 (fun b' o' e h=>by have g1:=hlo _ h;have g2:=qcR.out b' o' e;omega));have bV:=QH hlo;have HW3:=QH hw3;have iX:=QH hb3.size;clear hdq hb3 hlo hw3 q1K HCP;go_wp2_with fail;refine HLY.out.mono ?_;rintro e W4 ⟨rfl,d4,o4,hd4,hj4,hf4,hb4,hg4⟩;have qsx:Below W2.heap.size W3 W4:=hb4.below (fun j hj=>bV.out j hj) iX.out;have x9:Hid (Below w.heap.size w W4):=qZ.out.trans (qsx.mono qC.out.size);have hw4:=lW HW3.out qsx.size (fun b' o' e hb=>qsx.block b' (qcR.out b' o' e).2);have q1L:=xi dK.out x9.out (zP dK.out);have q1M:=QH (qo7.out o W4 pd (HD.out.below x9.out) q1L HOG.out A ca hw4 (fun b' o' e h=>by have g1:=HD.out.low _ h;have g2:=qcR.out b' o' e;omega));clear hd4 hj4 hf4 hb4 hg4 qsx hw4 q1L HLY;go_wp2_with fail;refine q1M.out.mono ?_;rintro e W5 ⟨rfl,d5,o5,hd5,hj5,hf5,hb5,hg5⟩;have H1:=QH hd5;have H2:=QH hj5;have H3:=QH hf5;have H4:=QH hb5;have H5:=QH hg5;clear hd5 hj5 hf5 hb5 hg5 q1M;go_wp2_with fail;go_ret;have hs:=x9.out.size;refine⟨rfl,ft b,d5,o5,H1.out,H2.out,q7j.out,H3.out,(ib.qz.of_below (S:=o) x9.out).trans H4.out (fun _ h=>.inl h),fun j hj=>?_⟩;rcases H5.out j hj with hj|hj
 ·exact .inl hj
 ·exact .inr (by omega)
def qkJ (m:Mt)(g:Gd):Int:=if mt.above g (qF m)=false then 2 else if 20≤m.qa.length then 3 else 0
def dp (m:Mt)(g:Gd)(l:List Int):Mt:={ m with qa:=m.qa++[⟨g,l,false⟩] }
theorem qhl(m:Mt)(g:Gd):(qkJ m g≠0∧ke m g=⟨qkJ m g,m,[]⟩)∨(qkJ m g=0∧ke m g=⟨0,{ dp m g m.live with tok:=zR },[]⟩):=by
 unfold qkJ ke dp;by_cases h1:mt.above g (qF m)=false
 ·rw[if_pos h1,if_pos h1];exact .inl ⟨by decide,rfl⟩
 ·rw[if_neg h1,if_neg h1];by_cases h2:20≤m.qa.length
  ·rw[if_pos h2,if_pos h2];exact .inl ⟨by decide,rfl⟩
  ·rw[if_neg h2,if_neg h2];exact .inr ⟨rfl,rfl⟩
def dE (G:Nat→Prop)(v:Value)(w:World)(m m':Mt):Prop:=(∃k ky,v=.func (.func k) #[] ky)∧uY G w v m m'
theorem dE.below{G:Nat→Prop}{v:Value}{w w':World}{m m':Mt}(h:dE G v w m m')(hb:Below w.heap.size w w'):dE G v w' m m':=⟨h.1,h.2.below hb⟩
theorem dE.of{G:Nat→Prop}{v:Value}{w:World}{m m':Mt}(h:uY G w v m m'):dE G v w m m':=⟨h.form,h⟩
def qsy (G:Nat→Prop)(p:Nat)(A0:Option Addr)(c0:Nat)(m:Mt)(g:Gd):Nat→Value→World→Prop:=fun i v w=>match i with
 | 1=>v=.agg #[.int .u64 (g.1:Int),.int .u64 (g.2:Int)]
 | 6=>v=.slice A0 m.live.length c0
 | 7=>dE G v w m (dp m g m.live)
 | 8=>v=.agg (eJ zR none 0 0)
 | 9=>dE G v w (dp m g m.live) { dp m g m.live with tok:=zR }
 | 10=>∃B f1 f2,v=.slice (some ⟨B,0,none⟩) 2 2∧qg w B 115 #[f1,f2]∧dE G f1 w m (dp m g m.live)∧dE G f2 w (dp m g m.live) { dp m g m.live with tok:=zR }
 | _=>v=pt p
theorem qkK(G:Nat→Prop)(p:Nat)(A0:Option Addr)(c0:Nat)(m:Mt)(g:Gd):∀i v w w',i<11→qsy G p A0 c0 m g i v w→Below w.heap.size w w'→qsy G p A0 c0 m g i v w':=by
 intro i v w w' hi h hb;rcases i with _|_|_|_|_|_|_|_|_|_|_|i;all_goals (first|omega|skip)
 all_goals unfold qsy at h ⊢
 all_goals dsimp only at h ⊢
 all_goals first
  | exact h
  | exact h.below hb
  | (obtain⟨B,f1,f2,h1,h2,h3,h4⟩:=h
     exact⟨B,f1,f2,h1,h2.below hb,h3.below hb,h4.below hb⟩)
theorem oC {o1 o2:Nat→Prop}{w:World}{v pd N b:Nat}{d:DD}{m:Mt}{t:Tg}(g:Gd)(h:VP jL w o1 o2 v pd d m false)(hJ:jr.JJ N t d)(hf:0≤d.qu)(hR:qW b N t m)(hg:xn g) :
    Calls prog 30 #[pt v,gv g] w (ua jL o1 o2 v pd (yo N t d m (ke m g)) w):=by
 have nS:=QH (lq hR g hg);have HGD:=QH hg;obtain⟨g1,g2⟩:=g;have np:=QH h;have hb2:=(Below.refl _ w).alloc (Nat.le_refl _) (.cells #[.int .u64 (g1:Int),.int .u64 (g2:Int)] 55);have hr2:=qg.new w 55 #[.int .u64 (g1:Int),.int .u64 (g2:Int)];obtain⟨W,hW2⟩:=QE (w.alloc (.cells #[.int .u64 (g1:Int),.int .u64 (g2:Int)] 55));rw[hW2]at hb2 hr2;have h2:=qX h hb2;obtain⟨A0,A1,A2,c0,c1,c2,hA⟩:=h2.is;have HA:=QH hA;have HJ:=QH hJ;have HR:=QH hR;have HFU:=QH hf;have qC:=QH hb2;have jK:=QH hr2;have xF:=QH (jS h2 hJ.on);have iX:=QH hA.sz;obtain⟨bE,k0,k1,k2,k3,k4,k5,k6,k7,k8,k9,cV⟩:=hA.cells;have r0:=hr2.cell 0;have r1:=hr2.cell 1;have rlt:=hr2.lt;simp only[Nat.zero_add,QA,QB,QC]at r0 r1;have e0:=fun d os=>cell_regrown k0 d os;have e1:=fun d os=>cell_regrown k1 d os;have e2:=fun d os=>cell_regrown k2 d os;have e3:=fun d os=>cell_regrown k3 d os;have e4:=fun d os=>cell_regrown k4 d os;have e5:=fun d os=>cell_regrown k5 d os;have e6:=fun d os=>cell_regrown k6 d os;have e7:=fun d os=>cell_regrown k7 d os;have e8:=fun d os=>cell_regrown k8 d os;have p0:=fun d os=>cell_regrown r0 d os;have p1:=fun d os=>cell_regrown r1 d os;have cF:∀b os,Calls prog 76 #[.agg (zq A0 A1 A2 c0 c1 c2 m),gv (g1,g2)] (grow (redrawn W b) os) fun e w''=>e=.returned (.int .i64 (qkJ m (g1,g2)))∧∃q:Regrown,w''=grow (redrawn W q.d) q.os :=
  fun b os=>Calls.regrown_of (rP (HA.out.below (below_regrown W b os)).tab.mt.qa iX.out.qa (g1,g2))
 have HFC:=QH (qhl m (g1,g2));obtain⟨PN,lR⟩:=QE (ke m (g1,g2));obtain⟨F,hF⟩:=QE (qkJ m (g1,g2));rw[hF,lR]at HFC;rw[lR]at nS;rw[hF]at cF;rw[lR];clear h h2 hJ hR hA hb2 hr2 lR hF hf hg;unfold gv at cF;unfold zq at cF;dsimp only at cF;show Calls _ _ #[pt v,.agg #[.int .u64 (g1:Int),.int .u64 (g2:Int)]] _ _;go_enter func30,ntmps30;go_upto_region 1 with fail;try rw[hW2]
 clear hW2;go_wp2_with fail;refine xF.out.mono ?_;rintro e W1 ⟨rfl,rfl⟩;clear xF;go_upto_region 4 with fail;refine wp_region_quiet_below vY (by kernel_rfl) ?_;repeat (any_goals (first|go_big_quiet_step (first|exact cF _ _)|quiet_step (first|exact cF _ _)))
 refine wpQuiet_nil ?_;intro _ hw';obtain⟨⟨dq,osq⟩,hw''⟩:=hw';subst hw'';have hb:=below_regrown W dq osq;have qZ:=QH (qc qC.out hb);have cj:=QH (HA.out.below hb);have eG:=QH (jK.out.below hb);clear hb e0 e1 e2 e3 e4 e5 e6 e7 e8 p0 p1 cF HA qC jK bE k0 k1 k2 k3 k4 k5 k6 k7 k8 k9 cV r0 r1 rlt;generalize grow (redrawn W dq) osq=W3 at *;rcases HFC.out with⟨hc,dV⟩|⟨hc,dV⟩
 ·have hcb:(F != 0)=true:=by simpa using hc
  have HPN:=QH dV;have HC:=QH hc;clear hc dV HFC;go_wp2_with fail;go_ret;rw[HPN.out];exact jU (qX np.out qZ.out) qZ.out (kR HC.out)
 ·subst hc;have dn:Hid (PN.code=0∧PN.m={ dp m (g1,g2) m.live with tok:=zR }∧PN.ws=[]):=by unfold Hid;rw[dV];exact⟨rfl,rfl,rfl⟩
  have HDK:Hid (yD b N PN.m∧dI N m PN.ws):=⟨(nS.out.2.1 dn.out.1).ok,(nS.out.2.1 dn.out.1).ws⟩;have hce:((0:Int) != 0)=false:=rfl;have bR:=HR.out.ok.few;have H20:=QH bR;clear dV HFC nS bR;go_wp2_with fail;refine qQ (by kernel_rfl) 11 [21,22,23,24,25,26,27,28,29,30,31] (by kernel_rfl) (qsy (fun j=>(o1 j∧j≠v)∨w.heap.size≤j) v A0 c0 m (g1,g2)) (qkK _ _ _ _ _ _) ?_ ?_
  ·intro i o vs ρ W hi hop hρ hfn hb hG;have t0:ρ (.tmp 0)=pt v:=hρ.out 0 rfl;have t3:ρ (.tmp 3)=pt w.heap.size:=hρ.out 3 rfl;have s22:=hρ.at_ 22 1 rfl;have s23:=hρ.at_ 23 2 rfl;have s24:=hρ.at_ 24 3 rfl;have s25:=hρ.at_ 25 4 rfl;have s26:=hρ.at_ 26 5 rfl;have s27:=hρ.at_ 27 6 rfl;have s28:=hρ.at_ 28 7 rfl;have s29:=hρ.at_ 29 8 rfl;have s30:=hρ.at_ 30 9 rfl;have hr:=eG.out.below hb;have r0:=hr.cell 0;have r1:=hr.cell 1;simp only[QA,QB,QC]at r0 r1;have hrl:=hr.lt;have nb:=cj.out.below hb;have k0:=nb.cells.k0;have bE:=nb.cells.lt;have hsz:w.heap.size≤W.heap.size:=Nat.le_trans qZ.out.size hb.size;rcases i with _|_|_|_|_|_|_|_|_|_|_|i;all_goals (first|omega|skip)
   all_goals simp only[QA,QB,QC,Option.some.injEq]at hop
   all_goals subst hop
   ·exact q9 (w':=W) (by unfold execOp;simp only[t0];go_simp) ⟨Below.refl _ _,rfl⟩
   ·exact q9 (w':=W) (by unfold execOp;simp only[t3];go_simp) ⟨Below.refl _ _,rfl⟩
   ·exact q9 (w':=W) (by unfold execOp;simp only[t0];go_simp) ⟨Below.refl _ _,rfl⟩
   ·have g2:vs 2=_:=hG 2 (by kernel_rfl);exact q9 (w':=W) (by unfold execOp;simp only[s23,g2];go_simp) ⟨Below.refl _ _,rfl⟩
   ·have g3:vs 3=_:=hG 3 (by kernel_rfl);exact q9 (w':=W) (by unfold execOp;simp only[s24,g3];go_simp) ⟨Below.refl _ _,rfl⟩
   ·have g4:vs 4=_:=hG 4 (by kernel_rfl);exact q9 (w':=W) (by unfold execOp;simp only[s25,g4];go_simp) ⟨Below.refl _ _,rfl⟩
   ·have g5:vs 5=_:=hG 5 (by kernel_rfl);exact q9 (w':=W) (by unfold execOp;simp only[s26,g5];go_simp) ⟨Below.refl _ _,rfl⟩
   ·have g1':vs 1=_:=hG 1 (by kernel_rfl);have g6:vs 6=_:=hG 6 (by kernel_rfl);refine qj (f:=66) (args:=#[gv (g1,g2),.slice A0 m.live.length c0]) (w':=W) (by unfold execOp gv;simp only[hfn,s22,g1',s27,g6];go_simp) ((qdB (G:=fun j=>(o1 j∧j≠v)∨w.heap.size≤j) nb.tab.live.at_ nb.sz.live HGD.out (fun j hj=>.inr (Nat.le_trans hsz hj))).mono ?_);rintro e W' ⟨f,rfl,lS,hb5⟩;exact⟨f,rfl,hb5,dE.of (lS m (dp m (g1,g2) m.live) ⟨by have:=H20.out;omega,rfl⟩)⟩
   ·exact q9 (w':=W) (by unfold eJ zR execOp;go_simp) ⟨Below.refl _ _,rfl⟩
   ·have g8:vs 8=_:=hG 8 (by kernel_rfl);refine qj (f:=60) (args:=#[.agg (eJ zR none 0 0)]) (w':=W) (by unfold execOp;simp only[hfn,s29,g8];go_simp) ((vk (G:=fun j=>(o1 j∧j≠v)∨w.heap.size≤j) (t:=zR) (yQ.none W) (by decide) qep (fun j hj=>.inr (Nat.le_trans hsz hj))).mono ?_);rintro e W' ⟨f,rfl,lS,hb5⟩;exact⟨f,rfl,hb5,dE.of (lS (dp m (g1,g2) m.live) _ rfl)⟩
   ·have g7:=hG 7 (by kernel_rfl);have g9:=hG 9 (by kernel_rfl);obtain⟨⟨ka,ca,ea⟩,g7b⟩:=g7;obtain⟨⟨kb,cb,eb⟩,g9b⟩:=g9;have hb1:=(Below.refl _ W).alloc (Nat.le_refl _) (.cells #[.func (.func ka) #[] ca,.func (.func kb) #[] cb] 115);rw[ea]at g7b;rw[eb]at g9b;exact q9 (v:=.slice (some ⟨W.heap.size,0,none⟩) 2 2) (w':=W.alloc (.cells #[.func (.func ka) #[] ca,.func (.func kb) #[] cb] 115)) (by unfold execOp;simp only[s28,ea,s30,eb];go_simp) ⟨hb1,_,_,_,rfl,qg.new _ _ _,(dE.of g7b).below hb1,(dE.of g9b).below hb1⟩
  ·intro vs W hb hG;have g0:vs 0=_:=hG 0 (by decide);obtain⟨B,f1,f2,g10,vn,he1,tT⟩:=hG 10 (by decide);have ew:=QH (gT np.out (qc qZ.out hb) HJ.out HFU.out HR.out dn.out.1 HDK.out (c:=2) rfl (dn.out.2.1.symm) (qoP vn he1.2 tT.2) (by omega) (cb:=0) (ix W) (by simp) (dn.out.2.2.symm));simp only[za,qN,if_true];rw[g0,g10];generalize vs 1=z1;generalize vs 2=z2;generalize vs 3=z3;generalize vs 4=z4;generalize vs 5=z5;generalize vs 6=z6;generalize vs 7=z7;generalize vs 8=z8;generalize vs 9=z9;clear hG g0 g10 hb vn he1 tT;simp only[Act.put,List.setIfInBounds_toArray,List.set_cons_succ,List.set_cons_zero];refine qL (i:=11) (by kernel_rfl) rfl rfl ?_;go_simp;refine ew.out.mono ?_;rintro e W7 ⟨r,d',m',lost,dJ,wW,rfl,hh⟩;have HH:=QH hh;clear hh ew;go_simp;refine qL (i:=12) (by kernel_rfl) rfl rfl ?_;go_simp;refine⟨by kernel_rfl,?_⟩;go_wp2_with fail;go_ret;exact⟨r,d',m',lost,dJ,wW,rfl,HH.out⟩
def r1M (m:Mt)(k:Nat):Mt:={ m with qa:=m.qa.take k }
def r2M (m:Mt)(k:Nat):Mt:={ r1M m k with live:=kO m k }
def r3M (m:Mt)(k:Nat):Mt:={ r2M m k with tok:=zR }
theorem qkL{m:Mt}{k:Nat}(h:k≤m.qa.length):jF m (k:Int)=⟨0,r3M m k,[]⟩:=by
 unfold jF;rw[if_neg (by omega)];rfl
theorem qoW{m:Mt}{n:Int}(h:n<0∨(m.qa.length:Int)<n):jF m n=⟨2,m,[]⟩:=by
 unfold jF;rw[if_pos h]
def qs4 (G:Nat→Prop)(p:Nat)(T:Array Value)(m:Mt)(k:Nat):Nat→Value→World→Prop:=fun i v w=>match i with
 | 1 | 7=>v=.int .i64 (k:Int)
 | 2=>dE G v w m (r1M m k)
 | 6=>v=.agg T
 | 8=>∃A c,v=.slice A (kO m k).length c∧aA G w A (kO m k) c
 | 9=>dE G v w (r1M m k) (r2M m k)
 | 10=>v=.agg (eJ zR none 0 0)
 | 11=>dE G v w (r2M m k) (r3M m k)
 | 12=>∃B f1 f2 f3,v=.slice (some ⟨B,0,none⟩) 3 3∧qg w B 115 #[f1,f2,f3]∧dE G f1 w m (r1M m k)∧dE G f2 w (r1M m k) (r2M m k)∧dE G f3 w (r2M m k) (r3M m k)
 | _=>v=pt p
theorem qkM(G:Nat→Prop)(p:Nat)(T:Array Value)(m:Mt)(k:Nat):∀i v w w',i<13→qs4 G p T m k i v w→Below w.heap.size w w'→qs4 G p T m k i v w':=by
 intro i v w w' hi h hb;rcases i with _|_|_|_|_|_|_|_|_|_|_|_|_|i;all_goals (first|omega|skip)
 all_goals unfold qs4 at h ⊢
 all_goals try dsimp only at h ⊢
 all_goals first
  | exact h
  | exact h.below hb
  | (obtain⟨A,c,h1,h2⟩:=h
     exact⟨A,c,h1,h2.stay (uS.of_below hb)⟩)
  | (obtain⟨B,f1,f2,f3,h1,h2,h3,h4,h5⟩:=h
     exact⟨B,f1,f2,f3,h1,h2.below hb,h3.below hb,h4.below hb,h5.below hb⟩)
theorem qoX{o1 o2:Nat→Prop}{w:World}{v pd N b:Nat}{d:DD}{m:Mt}{t:Tg}(n:Int)(h:VP jL w o1 o2 v pd d m false)(hJ:jr.JJ N t d)(hf:0≤d.qu)(hR:qW b N t m)(hn:ib.jd n) :
    Calls prog 34 #[pt v,.int .i64 n] w (ua jL o1 o2 v pd (yo N t d m (jF m n)) w):=by
 have HV:=QH h;have HJ:=QH hJ;have HR:=QH hR;have HFU:=QH hf;have xF:=QH (jS h hJ.on);have nS:=QH (lr hR n);obtain⟨A0,A1,A2,c0,c1,c2,hA⟩:=h.is;have HA:=QH hA;obtain⟨bE,k0,k1,k2,k3,k4,k5,k6,k7,k8,k9,cV⟩:=hA.cells;by_cases hbd:n<0∨(m.qa.length:Int)<n
 ·have HPN:=QH (qoW hbd);obtain⟨PN,lR⟩:=QE (jF m n);rw[lR]at HPN ⊢;clear h hJ hR hf hA lR nS;by_cases h0:n<0
  ·clear hbd;go_enter func34,ntmps34;go_wp2_with fail;refine xF.out.mono ?_;rintro e W0 ⟨rfl,rfl⟩;clear xF;go_wp2_with fail;go_ret;rw[HPN.out];exact jU HV.out (Below.refl _ _) (kR (by decide))
  ·have h1:(m.qa.length:Int)<n:=by omega
   clear hbd;go_enter func34,ntmps34;go_wp2_with fail;refine xF.out.mono ?_;rintro e W0 ⟨rfl,rfl⟩;clear xF;go_wp2_with fail;go_ret;rw[HPN.out];exact jU HV.out (Below.refl _ _) (kR (by decide))
 ·obtain⟨k,rfl⟩:∃k:Nat,n=(k:Int):=⟨n.toNat,by omega⟩;have hkl:k≤m.qa.length:=by omega
  have h0:¬ (k:Int)<0:=by omega
  have h1:¬ (m.qa.length:Int)<(k:Int):=by omega
  have dV:=qkL hkl;obtain⟨PN,lR⟩:=QE (jF m (k:Int));rw[lR]at dV nS ⊢;have dn:Hid (PN.code=0∧PN.m=r3M m k∧PN.ws=[]):=by unfold Hid;rw[dV];exact⟨rfl,rfl,rfl⟩
  have HDK:Hid (yD b N PN.m∧dI N m PN.ws):=⟨(nS.out.2.1 dn.out.1).ok,(nS.out.2.1 dn.out.1).ws⟩;have HKL:=QH hkl;have HBL:Hid ((kO m k).length≤1000):=by
   have h7:=HDK.out.1;rw[dn.out.2.1]at h7;have h8:=h7.len;have h9:=h7.b8;show(r3M m k).live.length≤1000;omega
  clear h hJ hR hf hA lR nS dV hbd hkl;go_enter func34,ntmps34;go_wp2_with fail;refine xF.out.mono ?_;rintro e W0 ⟨rfl,rfl⟩;clear xF;go_wp2_with fail;refine qQ (by kernel_rfl) 13 [23,24,25,26,27,28,29,30,31,32,33,34,35] (by kernel_rfl) (qs4 (fun j=>(o1 j∧j≠v)∨w.heap.size≤j) v (zq A0 A1 A2 c0 c1 c2 m) m k) (qkM _ _ _ _ _) ?_ ?_
  ·intro i o vs ρ W hi hop hρ hfn hb hG;have t0:ρ (.tmp 0)=pt v:=hρ.out 0 rfl;have t1:ρ (.tmp 1)=.int .i64 (k:Int):=hρ.out 1 rfl;have s24:=hρ.at_ 24 1 rfl;have s25:=hρ.at_ 25 2 rfl;have s26:=hρ.at_ 26 3 rfl;have s27:=hρ.at_ 27 4 rfl;have s28:=hρ.at_ 28 5 rfl;have s29:=hρ.at_ 29 6 rfl;have s30:=hρ.at_ 30 7 rfl;have s31:=hρ.at_ 31 8 rfl;have s32:=hρ.at_ 32 9 rfl;have s33:=hρ.at_ 33 10 rfl;have s34:=hρ.at_ 34 11 rfl;have nb:=HA.out.below hb;obtain⟨bE,k0,k1,k2,k3,k4,k5,k6,k7,k8,k9,cV⟩:=nb.cells;have hsz:w.heap.size≤W.heap.size:=hb.size;rcases i with _|_|_|_|_|_|_|_|_|_|_|_|_|i;all_goals (first|omega|skip)
   all_goals simp only[QA,QB,QC,Option.some.injEq]at hop
   all_goals subst hop
   ·exact q9 (w':=W) (by unfold execOp;simp only[t0];go_simp) ⟨Below.refl _ _,rfl⟩
   ·exact q9 (w':=W) (by unfold execOp;simp only[t1];go_simp) ⟨Below.refl _ _,rfl⟩
   ·have g1:vs 1=_:=hG 1 (by kernel_rfl);refine qj (f:=80) (args:=#[.int .i64 (k:Int)]) (w':=W) (by unfold execOp;simp only[hfn,s24,g1];go_simp) ((qjO (G:=fun j=>(o1 j∧j≠v)∨w.heap.size≤j) k).mono ?_);rintro e W' ⟨f,rfl,lS,hb5⟩;exact⟨f,rfl,hb5,dE.of (lS m (r1M m k) ⟨HKL.out,rfl⟩)⟩
   ·exact q9 (w':=W) (by unfold execOp;simp only[t0];go_simp) ⟨Below.refl _ _,rfl⟩
   ·have g3:vs 3=_:=hG 3 (by kernel_rfl);exact q9 (w':=W) (by unfold execOp;simp only[s26,g3];go_simp) ⟨Below.refl _ _,rfl⟩
   ·have g4:vs 4=_:=hG 4 (by kernel_rfl);exact q9 (w':=W) (by unfold execOp;simp only[s27,g4];go_simp) ⟨Below.refl _ _,rfl⟩
   ·have g5:vs 5=_:=hG 5 (by kernel_rfl);exact q9 (w':=W) (by unfold zq execOp;simp only[s28,g5];go_simp) ⟨Below.refl _ _,rfl⟩
   ·exact q9 (w':=W) (by unfold execOp;simp only[t1];go_simp) ⟨Below.refl _ _,rfl⟩
   ·have g6:vs 6=_:=hG 6 (by kernel_rfl);have g7:vs 7=_:=hG 7 (by kernel_rfl);refine qj (f:=79) (args:=#[.agg (zq A0 A1 A2 c0 c1 c2 m),.int .i64 (k:Int)]) (w':=W) (by unfold execOp;simp only[hfn,s29,g6,s30,g7];go_simp) ((pU (G:=fun j=>(o1 j∧j≠v)∨w.heap.size≤j) (nb.tab.qa.mono (fun j hj=>.inl hj)) nb.sz (fun j hj=>.inr (Nat.le_trans hsz hj)) k HKL.out).mono ?_);rintro e W' ⟨A,c,rfl,vO,hb5⟩;exact⟨_,rfl,hb5,A,c,rfl,vO⟩
   ·obtain⟨A,c,g8,vO⟩:=hG 8 (by kernel_rfl);refine qj (f:=57) (args:=#[.slice A (kO m k).length c]) (w':=W) (by unfold execOp;simp only[hfn,s31,g8];go_simp) ((lz (G:=fun j=>(o1 j∧j≠v)∨w.heap.size≤j) vO HBL.out (fun j hj=>.inr (Nat.le_trans hsz hj))).mono ?_);rintro e W' ⟨f,rfl,lS,hb5⟩;exact⟨f,rfl,hb5,dE.of (lS (r1M m k) _ rfl)⟩
   ·exact q9 (w':=W) (by unfold eJ zR execOp;go_simp) ⟨Below.refl _ _,rfl⟩
   ·have g10:vs 10=_:=hG 10 (by kernel_rfl);refine qj (f:=60) (args:=#[.agg (eJ zR none 0 0)]) (w':=W) (by unfold execOp;simp only[hfn,s33,g10];go_simp) ((vk (G:=fun j=>(o1 j∧j≠v)∨w.heap.size≤j) (t:=zR) (yQ.none W) (by decide) qep (fun j hj=>.inr (Nat.le_trans hsz hj))).mono ?_);rintro e W' ⟨f,rfl,lS,hb5⟩;exact⟨f,rfl,hb5,dE.of (lS (r2M m k) _ rfl)⟩
   ·have g2:=hG 2 (by kernel_rfl);have g9:=hG 9 (by kernel_rfl);have g11:=hG 11 (by kernel_rfl);obtain⟨⟨ka,ca,ea⟩,ga⟩:=g2;obtain⟨⟨kb,cb,eb⟩,gb⟩:=g9;obtain⟨⟨kc,cc,ec⟩,gc⟩:=g11;have hb1:=(Below.refl _ W).alloc (Nat.le_refl _) (.cells #[.func (.func ka) #[] ca,.func (.func kb) #[] cb,.func (.func kc) #[] cc] 115);rw[ea]at ga;rw[eb]at gb;rw[ec]at gc;exact q9 (v:=.slice (some ⟨W.heap.size,0,none⟩) 3 3) (w':=W.alloc (.cells #[.func (.func ka) #[] ca,.func (.func kb) #[] cb,.func (.func kc) #[] cc] 115)) (by unfold execOp;simp only[s25,ea,s32,eb,s34,ec];go_simp) ⟨hb1,_,_,_,_,rfl,qg.new _ _ _,(dE.of ga).below hb1,(dE.of gb).below hb1,(dE.of gc).below hb1⟩
  ·intro vs W hb hG;have g0:vs 0=_:=hG 0 (by decide);obtain⟨B,f1,f2,f3,g12,vn,he1,tT,he3⟩:=hG 12 (by decide);have ew:=QH (gT HV.out hb HJ.out HFU.out HR.out dn.out.1 HDK.out (M:=fun i=>if i=0 then m else if i=1 then r1M m k else if i=2 then r2M m k else r3M m k) (n:=3) (c:=3) rfl (dn.out.2.1.symm) (rV vn he1.2 tT.2 he3.2) (by omega) (cb:=0) (ix W) (by simp) (dn.out.2.2.symm));simp only[za,qN,if_true];rw[g0,g12];generalize vs 1=z1;generalize vs 2=z2;generalize vs 3=z3;generalize vs 4=z4;generalize vs 5=z5;generalize vs 6=z6;generalize vs 7=z7;generalize vs 8=z8;generalize vs 9=z9;generalize vs 10=z10;generalize vs 11=z11;clear hG g0 g12 hb vn he1 tT he3;simp only[Act.put,List.setIfInBounds_toArray,List.set_cons_succ,List.set_cons_zero];refine qL (i:=13) (by kernel_rfl) rfl rfl ?_;go_simp;refine ew.out.mono ?_;rintro e W7 ⟨r,d',m',lost,dJ,wW,rfl,hh⟩;have HH:=QH hh;clear hh ew;go_simp;refine qL (i:=14) (by kernel_rfl) rfl rfl ?_;go_simp;refine⟨by kernel_rfl,?_⟩;go_wp2_with fail;go_ret;exact⟨r,d',m',lost,dJ,wW,rfl,HH.out⟩
section
variable {b n:Nat} {last:Gd} {f:Tf} {x:List (Int × Bt)}
theorem qoY(h:f.base≠last):zU b n last f x=2:=by unfold zU;rw[if_pos (.inl h)]
theorem qkN(h:above f.target last=false):zU b n last f x=2:=by unfold zU;rw[if_pos (.inr (.inl h))]
theorem qoZ(h:f.next<0):zU b n last f x=2:=by unfold zU;rw[if_pos (.inr (.inr (.inr (.inr (.inl h)))))]
theorem qpa(h:f.all<f.next):zU b n last f x=2:=by unfold zU;rw[if_pos (.inr (.inr (.inr (.inr (.inr (.inl h))))))]
theorem qs5(h:(b:Int)<f.all):zU b n last f x=2:=by unfold zU;rw[if_pos (.inr (.inr (.inr (.inl h))))]
theorem qpb(h:¬ (f.next=0↔f.all=0)):zU b n last f x=2:=by unfold zU;rw[if_pos (.inr (.inr (.inr (.inr (.inr (.inr h))))))]
theorem qs6(h:zT b (-1) x=false):zU b n last f x=2:=by unfold zU;rw[if_pos h];split <;> rfl
theorem qpc(h1:f.base=last)(h2:above f.target last=true)(h3:¬ f.next<0)(h4:¬ f.all<f.next)(h5:¬ (b:Int)<f.all)(h6:f.next=0↔f.all=0)(h7:zT b (-1) x=true):zU b n last f x=if f.next=f.all then(if above f.target last=false then 2 else if 20≤n then 3 else 0)else 0:=by
 unfold zU;have h2':¬ above f.target last=false:=by rw[h2];simp
 rw[if_neg,if_neg (by rw[h7];simp),if_neg h2']
 ·by_cases e:f.next=f.all
  ·rw[if_pos e];by_cases e2:20≤n
   ·rw[if_pos ⟨e,e2⟩,if_pos e2]
   ·rw[if_neg (fun h=>e2 h.2),if_neg e2]
  ·rw[if_neg (fun h=>e h.1),if_neg e]
 ·rintro(h|h|h|h|h|h|h)
  ·exact h h1
  ·exact h2' h
  ·omega
  ·exact h5 h
  ·exact h3 h
  ·exact h4 h
  ·exact h h6
end
theorem qck{w:World}{A0 A1 A2:Option Addr}{c0 c1 c2:Nat}{m:Mt}(hS:jN w A1 m.qa)(hsz:mtS m)(f:Tf)(A:Option Addr)(n c:Nat)(B:Option Addr)(cx:Nat)(x:List (Int × Bt))(hx:ch.bw w B x)(dG:x.length≤1000) :
    Calls prog 64 #[.agg (zq A0 A1 A2 c0 c1 c2 m),.agg (eu f A n c),.slice B x.length cx] w (qiI (zU m.live.length m.qa.length (qF m) f x) w):=by
 obtain⟨W1,hW1,zO,hb1⟩:=xV w (zq A0 A1 A2 c0 c1 c2 m);have hb2:=(Below.refl _ W1).alloc (Nat.le_refl _) (.cells (eu f A n c) 59);have hr2:=qg.new W1 59 (eu f A n c);obtain⟨W,hW2⟩:=QE (W1.alloc (.cells (eu f A n c) 59));rw[hW2]at hb2 hr2;have qC:=QH (qc hb1 hb2);have hk2:=zO.below hb2;have kh:=QH hk2;have jK:=QH hr2;have HS:=QH (hS.below qC.out);have HX:=QH (hx.below qC.out);have bR:=hsz.qa;have h8:=hsz.live;have q0:=hk2.cell 0;have q1:=hk2.cell 1;have q2:=hk2.cell 2;have q3:=hk2.cell 3;have q4:=hk2.cell 4;have q5:=hk2.cell 5;have q6:=hk2.cell 6;have q7:=hk2.cell 7;have q8:=hk2.cell 8;have qlt:=hk2.lt;simp only[zq,eu,QA,QB,QC]at q0 q1 q2 q3 q4 q5 q6 q7 q8;have r0:=hr2.cell 0;have r1:=hr2.cell 1;have r2:=hr2.cell 2;have r3:=hr2.cell 3;have r4:=hr2.cell 4;have r5:=hr2.cell 5;have r6:=hr2.cell 6;have rlt:=hr2.lt;simp only[zq,eu,QA,QB,QC]at r0 r1 r2 r3 r4 r5 r6;have e0:=fun d os=>cell_regrown q0 d os;have e1:=fun d os=>cell_regrown q1 d os;have e2:=fun d os=>cell_regrown q2 d os;have e3:=fun d os=>cell_regrown q3 d os;have e4:=fun d os=>cell_regrown q4 d os;have e5:=fun d os=>cell_regrown q5 d os;have e6:=fun d os=>cell_regrown q6 d os;have e7:=fun d os=>cell_regrown q7 d os;have e8:=fun d os=>cell_regrown q8 d os;have p0:=fun d os=>cell_regrown r0 d os;have p1:=fun d os=>cell_regrown r1 d os;have cL:∀b os,Calls prog 112 #[.agg (zq A0 A1 A2 c0 c1 c2 m)] (grow (redrawn W b) os) fun e w''=>e=.returned (gv (qF m))∧∃q:Regrown,w''=grow (redrawn W q.d) q.os :=
  fun b os=>Calls.regrown_of (qay (HS.out.below (below_regrown W b os)) bR)
 have EB:=QH (fun h=>qoY (b:=m.live.length) (n:=m.qa.length) (last:=qF m) (f:=f) (x:=x) h);have EA:=QH (fun h=>qkN (b:=m.live.length) (n:=m.qa.length) (last:=qF m) (f:=f) (x:=x) h);have EN:=QH (fun h=>qoZ (b:=m.live.length) (n:=m.qa.length) (last:=qF m) (f:=f) (x:=x) h);have EO:=QH (fun h=>qpa (b:=m.live.length) (n:=m.qa.length) (last:=qF m) (f:=f) (x:=x) h);have EL:=QH (fun h=>qs5 (b:=m.live.length) (n:=m.qa.length) (last:=qF m) (f:=f) (x:=x) h);have EZ:=QH (fun h=>qpb (b:=m.live.length) (n:=m.qa.length) (last:=qF m) (f:=f) (x:=x) h);have EC:=QH (fun h=>qs6 (b:=m.live.length) (n:=m.qa.length) (last:=qF m) (f:=f) (x:=x) h);have EG:=QH (fun h1 h2 h3 h4 h5 h6 h7=>qpc (b:=m.live.length) (n:=m.qa.length) (last:=qF m) (f:=f) (x:=x) h1 h2 h3 h4 h5 h6 h7);have lM:Hid (∀W',Calls prog 113 #[gv f.target,gv f.base] W' (dP (above f.target f.base) W')):=fun W'=>pR f.target f.base W';have dK:Hid (∀W',ch.bw W' B x→Calls prog 54 #[.agg (zq A0 A1 A2 c0 c1 c2 m),.slice B x.length cx] W' (dP (zT m.live.length (-1) x) W')):=fun W' h=>wS h8 h dG;have HCM:Hid (∀W',jN W' A1 m.qa→Calls prog 76 #[.agg (zq A0 A1 A2 c0 c1 c2 m),gv f.target] W' (qiI (if above f.target (qF m)=false then 2 else if 20≤m.qa.length then 3 else 0) W')):=fun W' h=>rP h bR f.target;obtain⟨Z,hZ⟩:=QE (if above f.target (qF m)=false then(2:Int)else if 20≤m.qa.length then 3 else 0);rw[hZ]at HCM EG;clear hZ;obtain⟨R,hR⟩:=QE (zU m.live.length m.qa.length (qF m) f x);obtain⟨q,hq⟩:=QE (zT m.live.length (-1) x);rw[hR]at EB EA EN EO EL EZ EC EG ⊢;rw[hq]at dK EC EG;clear hR hq;obtain⟨⟨ba,bb⟩,⟨ta,tb⟩,nx,al⟩:=f;obtain⟨L,hL⟩:=QE (qF m);rw[hL]at cL EB EA EG;obtain⟨la,lb⟩:=L;clear hS zO hb1 hb2 hr2 hk2 hL hx;dsimp only[eu,gv]at *;unfold zq at *;go_enter func64,ntmps64;go_upto_region 1 with fail;try rw[hW1]
 try rw[hW2]
 clear hW1 hW2;have qxf:((ba:Int)=la∧(bb:Int)=lb∧(ba,bb)=(la,lb))∨((¬ (ba:Int)=la∨((ba:Int)=la∧¬ (bb:Int)=lb))∧R=2):=by
  by_cases e1:ba=la
  ·by_cases e2:bb=lb
   ·exact .inl ⟨by rw[e1],by rw[e2],by rw[e1,e2]⟩
   ·exact .inr ⟨.inr ⟨by rw[e1],by omega⟩,EB.out (fun h=>e2 (Prod.mk.inj h).2)⟩
  ·exact .inr ⟨.inl (by omega),EB.out (fun h=>e1 (Prod.mk.inj h).1)⟩
 have FIN:Hid (∀dq osq,Below w.heap.size w (grow (redrawn W dq) osq)):=fun dq osq=>qc qC.out (below_regrown W dq osq);rcases qxf with⟨hba,hbb,hbe⟩|⟨hno,hr⟩
 case' inr =>
  have HR:=QH hr;clear hr;rcases hno with hn1|⟨hn1,hn2⟩;all_goals
   refine wp_region_quiet_below vY (by kernel_rfl) ?_;repeat (any_goals (first|go_big_quiet_step (first|exact cL _ _)|quiet_step (first|exact cL _ _)))
   refine wpQuiet_nil ?_;intro _ hw';obtain⟨⟨dq,osq⟩,hw''⟩:=hw';subst hw'';have qZ:=QH (FIN.out dq osq);clear cL e0 e1 e2 e3 e4 e5 e6 e7 e8 p0 p1;go_wp2_with fail;go_ret;exact⟨by rw[HR.out];rfl,qZ.out⟩
 have df:=QH hbe;clear hbe;refine wp_region_quiet_below vY (by kernel_rfl) ?_;repeat (any_goals (first|go_big_quiet_step (first|exact cL _ _)|quiet_step (first|exact cL _ _)))
 refine wpQuiet_nil ?_;intro _ hw';obtain⟨⟨dq,osq⟩,hw''⟩:=hw';subst hw'';have hbg:=below_regrown W dq osq;have qZ:=QH (FIN.out dq osq);have l6:=QH (kh.out.below hbg);have eG:=QH (jK.out.below hbg);have HS3:=QH (HS.out.below hbg);have HX3:=QH (HX.out.below hbg);clear hbg cL e0 e1 e2 e3 e4 e5 e6 e7 e8 p0 p1 qlt rlt q0 q1 q2 q3 q4 q5 q6 q7 q8 r0 r1 r2 r3 r4 r5 r6 hba hbb qC kh jK HS HX FIN;generalize grow (redrawn W dq) osq=W3 at *;have hr3:=eG.out;have r0:=hr3.cell 0;have r1:=hr3.cell 1;have r2:=hr3.cell 2;have r3:=hr3.cell 3;have r4:=hr3.cell 4;have r5:=hr3.cell 5;have r6:=hr3.cell 6;have rlt:=hr3.lt;simp only[Nat.zero_add,QA,QB,QC]at r0 r1 r2 r3 r4 r5 r6;clear hr3;go_wp2_with fail;refine(lM.out _).mono ?_;rintro e W4 ⟨rfl,hb4⟩;have x9:=QH (qc qZ.out hb4);have mv:=QH (l6.out.below hb4);have HR4:=QH (eG.out.below hb4);have HS4:=QH (HS3.out.below hb4);have HX4:=QH (HX3.out.below hb4);clear hb4 lM qZ l6 eG HS3 HX3 rlt r0 r1 r2 r3 r4 r5 r6;have hbe:=df.out;obtain⟨ab,hab⟩:=QE (above (ta,tb) (ba,bb));have HAB:Hid (above (ta,tb) (la,lb)=ab):=by unfold Hid;rw[← hbe];exact hab
 rw[hab];clear hab hbe;have hr4:=HR4.out;have hk4:=mv.out;have r0:=hr4.cell 0;have r1:=hr4.cell 1;have r2:=hr4.cell 2;have r3:=hr4.cell 3;have r4:=hr4.cell 4;have r5:=hr4.cell 5;have r6:=hr4.cell 6;have rlt:=hr4.lt;simp only[Nat.zero_add,QA,QB,QC]at r0 r1 r2 r3 r4 r5 r6;have q0:=hk4.cell 0;have q1:=hk4.cell 1;have q2:=hk4.cell 2;have q3:=hk4.cell 3;have q4:=hk4.cell 4;have q5:=hk4.cell 5;have q6:=hk4.cell 6;have q7:=hk4.cell 7;have q8:=hk4.cell 8;have qlt:=hk4.lt;simp only[Nat.zero_add,QA,QB,QC]at q0 q1 q2 q3 q4 q5 q6 q7 q8;clear hr4 hk4;cases ab
 case' false =>
  have HR:=QH (EA.out HAB.out);go_wp2_with fail;go_ret;exact⟨by rw[HR.out];rfl,x9.out⟩
 by_cases h3:nx<0
 case' pos =>
  have HR:=QH (EN.out h3);go_wp2_with fail;go_ret;exact⟨by rw[HR.out];rfl,x9.out⟩
 by_cases h4:al<nx
 case' pos =>
  have HR:=QH (EO.out h4);go_wp2_with fail;go_ret;exact⟨by rw[HR.out];rfl,x9.out⟩
 by_cases h5:(m.live.length:Int)<al
 case' pos =>
  have HR:=QH (EL.out h5);go_wp2_with fail;go_ret;exact⟨by rw[HR.out];rfl,x9.out⟩
 obtain⟨z1,hz1⟩:=QE (nx == 0);obtain⟨z2,hz2⟩:=QE (al == 0);have HZ:Hid ((nx=0↔al=0)↔z1=z2):=by
  unfold Hid;rw[← hz1,← hz2,Bool.eq_iff_iff];simp
 have HZ0:Hid (¬ (z1=z2)→R=2):=fun h=>EZ.out (fun e=>h (HZ.out.1 e));have HG:Hid (z1=z2→q=true→R=if nx=al then Z else 0):=fun h h7=>EG.out df.out HAB.out (by omega) (by omega) (by omega) (HZ.out.2 h) h7;clear HZ;cases z1 <;> cases z2
 case' false.true =>
  have HR:=QH (HZ0.out (by decide));go_wp2_with fail;go_ret;exact⟨by rw[HR.out];rfl,x9.out⟩
 case' true.false =>
  have HR:=QH (HZ0.out (by decide));go_wp2_with fail;go_ret;exact⟨by rw[HR.out];rfl,x9.out⟩
 all_goals
  have HG2:=QH (HG.out rfl);clear HG HZ0;go_wp2_with fail;refine(dK.out _ HX4.out).mono ?_;rintro e W5 ⟨rfl,hb5⟩;have jX:=QH (qc x9.out hb5);have hr5:=HR4.out.below hb5;have hk5:=mv.out.below hb5;have HS5:=QH (HS4.out.below hb5);clear hb5 r0 r1 r2 r3 r4 r5 r6 rlt q0 q1 q2 q3 q4 q5 q6 q7 q8 qlt;have r0:=hr5.cell 0;have r1:=hr5.cell 1;have r2:=hr5.cell 2;have r3:=hr5.cell 3;have r4:=hr5.cell 4;have r5:=hr5.cell 5;have r6:=hr5.cell 6;have rlt:=hr5.lt;simp only[Nat.zero_add,QA,QB,QC]at r0 r1 r2 r3 r4 r5 r6;have q0:=hk5.cell 0;have q1:=hk5.cell 1;have q2:=hk5.cell 2;have q3:=hk5.cell 3;have q4:=hk5.cell 4;have q5:=hk5.cell 5;have q6:=hk5.cell 6;have q7:=hk5.cell 7;have q8:=hk5.cell 8;have qlt:=hk5.lt;simp only[Nat.zero_add,QA,QB,QC]at q0 q1 q2 q3 q4 q5 q6 q7 q8;clear hr5 hk5;cases q
  case' false =>
   have HR:=QH (EC.out rfl);go_wp2_with fail;go_ret;exact⟨by rw[HR.out];rfl,jX.out⟩
  have HG3:=QH (HG2.out rfl);by_cases h6:nx=al
  case' neg =>
   have HR:Hid (R=0):=by unfold Hid;rw[HG3.out,if_neg h6]
   go_wp2_with fail;all_goals go_ret
   all_goals exact⟨by rw[HR.out];rfl,jX.out⟩
  have HR:Hid (R=Z):=by unfold Hid;rw[HG3.out,if_pos h6]
  have hnx:(nx == al)=true:=by rw[h6];simp
  go_wp2_with fail;refine(HCM.out _ HS5.out).mono ?_;rintro e W6 ⟨rfl,kV⟩;have dH:=QH (qc jX.out kV);clear kV r0 r1 r2 r3 r4 r5 r6 rlt q0 q1 q2 q3 q4 q5 q6 q7 q8 qlt;go_wp2_with fail;go_ret;exact⟨by rw[HR.out];rfl,dH.out⟩
end Go.Proofs.YtdagdllomphidaaGreatDoor.vt.pg
namespace Go.Proofs.YtdagdllomphidaaGreatDoor.vt.pg
open _root_.Go.Proofs.Tryz Go Go.RowKit Go.Sort ib mt im sp
theorem qpd{b N:Nat}{m:Mt}{f:Tf}(h:yD b N m)(e2:mt.above f.target (qF m)=true):jw b N (zJ m f):=by
 unfold zJ;split
 ·rename_i hm;rcases h.tok with ht|ht
  ·exfalso;rw[ht]at hm;have:f.target=(0,0):=hm.2.1.symm;rw[this]at e2;unfold mt.above at e2;simp at e2
  ·exact ht.2.2.2.2.2
 ·exact az h
def s1M (m:Mt)(f:Tf)(l:List Int):Mt:=dp m f.target l
def s2M (m:Mt)(f:Tf)(l:List Int):Mt:={ s1M m f l with live:=l }
def s3M (m:Mt)(f:Tf)(l:List Int):Mt:={ s2M m f l with tok:=zR }
def qpe (f:Tf)(l:List Int):Tk:=⟨f.base,f.target,f.next,f.all,l⟩
theorem qe0{b N:Nat}{t:Tg}{m:Mt}(h:qW b N t m)(f:Tf)(x:List (Int × Bt)) :
    (zU m.live.length m.qa.length (qF m) f x≠0∧zi N m f x=⟨zU m.live.length m.qa.length (qF m) f x,m,[]⟩) ∨
    (zU m.live.length m.qa.length (qF m) f x=0∧zT m.live.length (-1) x=true∧x.length≤8∧jw b N (zJ m f)∧f.next≤f.all ∧
     (((qw N m x).2≠0∧zi N m f x=⟨(qw N m x).2,m,[]⟩) ∨
      ((qw N m x).2=0∧((f.next=f.all∧zi N m f x=⟨0,s3M m f (zB (zJ m f) x (qw N m x).1.1),(qw N m x).1.2⟩) ∨
       (f.next≠f.all∧zi N m f x=⟨0,{ m with tok:=qpe f (zB (zJ m f) x (qw N m x).1.1) },(qw N m x).1.2⟩))))):=by
 by_cases he:zU m.live.length m.qa.length (qF m) f x=0
 ·right
  obtain⟨e1,e2,e3,e4,e5,e6,e7,e8⟩:=pI he;have hlen:=h.ok.len;have hb1:=h.ok.b1;have hb8:=h.ok.b8;refine⟨he,e7,?_,qpd h.ok e2,by omega,?_⟩
  ·have:=ll e7 (by omega) (by omega);omega
  ·unfold zi;rw[if_neg (by rw[he];simp)];by_cases h0:(qw N m x).2=0
   ·rw[if_neg (by rw[h0];simp)];refine .inr ⟨h0,?_⟩;by_cases hn:f.next=f.all
    ·rw[if_pos hn];exact .inl ⟨hn,rfl⟩
    ·rw[if_neg hn];exact .inr ⟨hn,rfl⟩
   ·rw[if_pos h0];exact .inl ⟨h0,rfl⟩
 ·left
  unfold zi;rw[if_pos he];exact⟨he,rfl⟩
theorem qpf{b N:Nat}{t:Tg}{m:Mt}(h:qW b N t m)(f:Tf)(hg:xn f.target)(x:List (Int × Bt))(h0:(zi N m f x).code=0):yD b N (zi N m f x).m∧dI N m (zi N m f x).ws:=by
 rcases gH h f hg x with⟨h7,_⟩|⟨_,hd⟩
 ·rw[h0]at h7;cases h7
 ·have hs:=hd h0;by_cases hn:f.next=f.all
  ·exact⟨(hs.whole hn).1.ok,(hs.whole hn).1.ws⟩
  ·exact⟨(hs.part hn).1.ok,(hs.part hn).1.ws⟩
theorem OPl.new{w:World}{B:Nat}{v:Value}{l:List Pl}(h:OPl w B v l):∀a n c,v=.slice a n c→∀b o s,a=some ⟨b,o,s⟩→B≤b:=by
 intro a n c hv b o s ha;rcases h.2 with⟨rfl,h0⟩|⟨g,cap,cur,rfl,hg,hh,hcc,hm,hcs,xo⟩
 ·cases hv;cases ha
 ·cases hv;cases ha;exact hg
theorem PlL.set{w:World}{A:Option Addr}{l:List Pl}(h:PlL w A l){g k:Nat}{u:Value}(hg:∀b o s,A=some ⟨b,o,s⟩→b≠g):PlL (w.setCell ⟨g,k,none⟩ u) A l:=by
 intro i hi;obtain⟨b,o,h1,h2,h3,h4,h5⟩:=h i hi;have hn:=hg b o none h1;have hb:(w.setCell ⟨g,k,none⟩ u).heap[b]?=w.heap[b]? :=qD _ _ _ _ _ hn;exact⟨b,o,h1,by simpa[World.setCell]using h2,(World.cell?_of_block (w:=w) (a:=⟨b,o+i*3,none⟩) hb).trans h3,(World.cell?_of_block (w:=w) (a:=⟨b,o+i*3+1,none⟩) hb).trans h4,(World.cell?_of_block (w:=w) (a:=⟨b,o+i*3+2,none⟩) hb).trans h5⟩
def qs8 (G:Nat→Prop)(p tb:Nat)(T F:Array Value)(src qo:List Int)(PV:Value):Nat→Value→World→Prop:=fun i v w=>match i with
 | 3=>v=.agg T
 | 4=>v=.agg F
 | 5=>∃A c,v=.slice A src.length c∧aA G w A src c
 | 6=>v=PV
 | 7=>∃A c,v=.slice A qo.length c∧aA G w A qo c
 | 8=>v=.pointer (some ⟨tb,6,none⟩)
 | _=>v=pt p
theorem qkO(G:Nat→Prop)(p tb:Nat)(T F:Array Value)(src qo:List Int)(PV:Value):∀i v w w',i<9→qs8 G p tb T F src qo PV i v w→Below w.heap.size w w'→qs8 G p tb T F src qo PV i v w':=by
 intro i v w w' hi h hb;rcases i with _|_|_|_|_|_|_|_|_|i;all_goals (first|omega|skip)
 all_goals unfold qs8 at h ⊢
 all_goals try dsimp only at h ⊢
 all_goals first
  | exact h
  | (obtain⟨A,c,h1,h2⟩:=h
     exact⟨A,c,h1,h2.stay (uS.of_below hb)⟩)
def qs9 (G:Nat→Prop)(p tb:Nat)(PV IV:Value)(m:Mt)(f:Tf)(qo:List Int):Nat→Value→World→Prop:=fun i v w=>match i with
 | 1=>v=PV
 | 2=>v=.pointer (some ⟨tb,2,none⟩)
 | 3=>v=.agg #[.int .u64 (f.target.1:Int),.int .u64 (f.target.2:Int)]
 | 4 | 7=>v=.pointer (some ⟨tb,6,none⟩)
 | 5 | 8=>v=IV
 | 6=>dE G v w m (s1M m f qo)
 | 9=>dE G v w (s1M m f qo) (s2M m f qo)
 | 10=>v=.agg (eJ zR none 0 0)
 | 11=>dE G v w (s2M m f qo) (s3M m f qo)
 | 12=>∃B f1 f2 f3,v=.slice (some ⟨B,0,none⟩) 3 3∧qg w B 115 #[f1,f2,f3]∧dE G f1 w m (s1M m f qo)∧dE G f2 w (s1M m f qo) (s2M m f qo)∧dE G f3 w (s2M m f qo) (s3M m f qo)
 | _=>v=pt p
theorem qkP(G:Nat→Prop)(p tb:Nat)(PV IV:Value)(m:Mt)(f:Tf)(qo:List Int):∀i v w w',i<13→qs9 G p tb PV IV m f qo i v w→Below w.heap.size w w'→qs9 G p tb PV IV m f qo i v w':=by
 intro i v w w' hi h hb;rcases i with _|_|_|_|_|_|_|_|_|_|_|_|_|i;all_goals (first|omega|skip)
 all_goals unfold qs9 at h ⊢
 all_goals try dsimp only at h ⊢
 all_goals first
  | exact h
  | exact h.below hb
  | (obtain⟨B,f1,f2,f3,h1,h2,h3,h4,h5⟩:=h
     exact⟨B,f1,f2,f3,h1,h2.below hb,h3.below hb,h4.below hb,h5.below hb⟩)
theorem qkQ{o1 o2:Nat→Prop}{w:World}{v pd N b:Nat}{d:DD}{m:Mt}{t:Tg}(f:Tf)(A:Option Addr)(c:Nat)(x:List (Int × Bt))(h:VP jL w o1 o2 v pd d m false)(hJ:jr.JJ N t d)(hf:0≤d.qu)(hR:qW b N t m)(hfb:TfB f)(hx:ch.bw w A x)(dG:x.length≤1000) :
    Calls prog 24 #[pt v,tkV f none 0 0,.slice A x.length c] w (ua jL o1 o2 v pd (yo N t d m (zi N m f x)) w):=by
 have nS:=QH (qpf hR f hfb.target x);have HFB:=QH hfb;have np:=QH h;have hb2:=(Below.refl _ w).alloc (Nat.le_refl _) (.cells (eu f none 0 0) 59);have hr2:=qg.new w 59 (eu f none 0 0);obtain⟨W,hW2⟩:=QE (w.alloc (.cells (eu f none 0 0) 59));rw[hW2]at hb2 hr2;have h2:=qX h hb2;obtain⟨A0,A1,A2,c0,c1,c2,hA⟩:=h2.is;have HA:=QH hA;have HJ:=QH hJ;have HR:=QH hR;have HFU:=QH hf;have qC:=QH hb2;have jK:=QH hr2;have iG:=QH (hx.below hb2);have xF:=QH (jS h2 hJ.on);have iX:=QH hA.sz;have HXL:=QH dG;obtain⟨bE,k0,k1,k2,k3,k4,k5,k6,k7,k8,k9,cV⟩:=hA.cells;have r0:=hr2.cell 0;have r1:=hr2.cell 1;have r2:=hr2.cell 2;have r3:=hr2.cell 3;have r4:=hr2.cell 4;have r5:=hr2.cell 5;have r6:=hr2.cell 6;have rlt:=hr2.lt;simp only[eu,Nat.zero_add,QA,QB,QC]at r0 r1 r2 r3 r4 r5 r6;have e0:=fun d os=>cell_regrown k0 d os;have e1:=fun d os=>cell_regrown k1 d os;have e2:=fun d os=>cell_regrown k2 d os;have e3:=fun d os=>cell_regrown k3 d os;have e4:=fun d os=>cell_regrown k4 d os;have e5:=fun d os=>cell_regrown k5 d os;have e6:=fun d os=>cell_regrown k6 d os;have e7:=fun d os=>cell_regrown k7 d os;have e8:=fun d os=>cell_regrown k8 d os;have p0:=fun d os=>cell_regrown r0 d os;have p1:=fun d os=>cell_regrown r1 d os;have p2:=fun d os=>cell_regrown r2 d os;have p3:=fun d os=>cell_regrown r3 d os;have p4:=fun d os=>cell_regrown r4 d os;have p5:=fun d os=>cell_regrown r5 d os;have p6:=fun d os=>cell_regrown r6 d os;have cF:∀b os,Calls prog 64 #[.agg (zq A0 A1 A2 c0 c1 c2 m),.agg (eu f none 0 0),.slice A x.length c] (grow (redrawn W b) os) fun e w''=>e=.returned (.int .i64 (zU m.live.length m.qa.length (qF m) f x))∧∃q:Regrown,w''=grow (redrawn W q.d) q.os :=
  fun b os=>Calls.regrown_of (qck (HA.out.below (below_regrown W b os)).tab.mt.qa iX.out f none 0 0 A c x (iG.out.below (below_regrown W b os)) HXL.out)
 have HFC:=QH (qe0 hR f x);obtain⟨PN,lR⟩:=QE (zi N m f x);obtain⟨F,hF⟩:=QE (zU m.live.length m.qa.length (qF m) f x);rw[hF,lR]at HFC;rw[lR]at nS;rw[hF]at cF;rw[lR];obtain⟨n,hn⟩:=QE x.length;rw[hn]at cF ⊢;have HN:=QH hn;clear h h2 hJ hR hA hb2 hr2 lR hF hf hfb hx hn dG;unfold zq eu at cF;try dsimp only at cF
 unfold tkV;unfold eu at hW2;go_enter func24,ntmps24;go_upto_region 1 with fail;try rw[hW2]
 clear hW2;go_wp2_with fail;refine xF.out.mono ?_;rintro e W1 ⟨rfl,rfl⟩;clear xF;go_upto_region 4 with fail;refine wp_region_quiet_below vY (by kernel_rfl) ?_;repeat (any_goals (first|go_big_quiet_step (first|exact cF _ _)|quiet_step (first|exact cF _ _)))
 refine wpQuiet_nil ?_;intro _ hw';obtain⟨⟨dq,osq⟩,hw''⟩:=hw';subst hw'';have hb:=below_regrown W dq osq;have qZ:=QH (qc qC.out hb);have cj:=QH (HA.out.below hb);have eG:=QH (jK.out.below hb);have HX3:=QH (iG.out.below hb);clear hb e0 e1 e2 e3 e4 e5 e6 e7 e8 p0 p1 p2 p3 p4 p5 p6 cF HA qC jK iG bE k0 k1 k2 k3 k4 k5 k6 k7 k8 k9 cV r0 r1 r2 r3 r4 r5 r6 rlt;generalize grow (redrawn W dq) osq=W3 at *;rcases HFC.out with⟨hc,dV⟩|⟨rfl,hck,hx8,hso,hle,fT⟩
 ·have hcb:(F != 0)=true:=by simpa using hc
  have HPN:=QH dV;have HC:=QH hc;clear hc dV HFC;go_wp2_with fail;go_ret;rw[HPN.out];exact jU (qX np.out qZ.out) qZ.out (kR HC.out)
 ·have qxh:=rT (c:=c) (qX np.out qZ.out) HJ.out.rb.1 HR.out.ok HR.out.N1 HX3.out hx8 (fun y hy=>(kL hck y hy).1);rw[HN.out]at qxh;have qkE:=QH qxh;have HCK:=QH hck;have HX8:=QH hx8;have HSO:=QH hso;have HLE:=QH hle;have qi2:=QH fT;have hce:((0:Int) != 0)=false:=rfl;clear HFC hck hx8 hso hle fT qxh;go_wp2_with fail;refine qkE.out.mono ?_;rintro e W4 ⟨hb4,mU⟩;have x9:=QH (qc qZ.out hb4);have iW:=QH (cj.out.below hb4);have HR4:=QH (eG.out.below hb4);have zej:=QH hb4.size;clear hb4 qkE;rcases mU with⟨hne,rfl⟩|⟨h0,pv,rfl,hop⟩
  ·have hcb:((qw N m x).2 != 0)=true:=by simpa using hne
   have HPE:Hid (PN=⟨(qw N m x).2,m,[]⟩):=by
    unfold Hid;rcases qi2.out with⟨_,h⟩|⟨h,_⟩
    ·exact h
    ·exact absurd h hne
   have sI:=QH hne;clear qi2 hne;generalize (qw N m x).2=pc at *;go_wp2_with fail;go_ret;rw[HPE.out];exact jU (qX np.out x9.out) x9.out (kR sI.out)
  ·have hpw:=rU HR.out.ok HR.out.N1 h0;have hpl:lj N m x (qw N m x).1.1 (qw N m x).1.2:=by
    rcases jh HR.out.ok HR.out.N1 x HX8.out (fun c hc=>(kL HCK.out c hc).1)with⟨h7,_⟩|⟨_,hp⟩
    ·rw[h7]at h0;cases h0
    ·exact hp
   have fT:(f.next=f.all∧PN=⟨0,s3M m f (zB (zJ m f) x (qw N m x).1.1),(qw N m x).1.2⟩)∨(f.next≠f.all∧PN=⟨0,{ m with tok:=qpe f (zB (zJ m f) x (qw N m x).1.1) },(qw N m x).1.2⟩):=by
    rcases qi2.out with⟨h,_⟩|⟨_,h⟩
    ·exact absurd h0 h
    ·exact h
   have qaC:=quq hpl HR.out.N1 HCK.out;have qcb:=qoO hpl.len;obtain⟨BA,bc,hpv,hPL⟩:=hop.view;have hnew:=hop.new _ _ _ hpv;have hsp:=qbX x (qw N m x).1.1 (zJ m f);generalize (qw N m x).1.1=at_ at *;generalize (qw N m x).1.2=ws at *;have vO:(zJ m f).length=b:=HSO.out.1;have hml:m.live.length=b:=HR.out.ok.len;have bG:(zB (zJ m f) x at_).length=b:=by rw[cP];exact vO
   have HPW:=QH hpw;have HPL:=QH hPL;have qkF:=QH qcb;have qcR:=QH hnew;have nQ:=QH fT;have cn:=QH vO;have qen:Hid (∀W A c,aA (fun j=>(o1 j∧j≠v)∨w.heap.size<j) W A (zJ m f) c→Below W4.heap.size W4 W→Calls prog 58 #[.slice A (zJ m f).length c,.slice BA (PL x at_).length bc] W (qjR (fun j=>(o1 j∧j≠v)∨w.heap.size<j) (zB (zJ m f) x at_) W)):=fun W A c hs hb=>by
    have:=jn hs (by rw[vO];exact HR.out.ok.b1) (by rw[vO];have:=HR.out.ok.b8;omega) (hPL.below hb) (cb:=bc) (by rw[vO];rw[hml]at qaC;exact qaC) (by rw[qcb];have:=HX8.out;omega) (fun j hj=>.inr (by
     have h1:=HR4.out.lt;have h2:=hb.size;omega))
    rw[hsp]at this;exact this
   obtain⟨pn,dV⟩:=QE ((PL x at_).length);rw[dV]at hpv qen;have HPN:=QH dV;subst hpv;obtain⟨qo,qjF⟩:=QE (zB (zJ m f) x at_);rw[qjF]at qen nQ bG;have HIL:=QH bG;obtain⟨P,hP⟩:=QE (PL x at_);rw[hP]at HPW HPL qkF HPN;obtain⟨src,ny⟩:=QE (zJ m f);have q7l:=QH ny;rw[ny]at qen cn;clear h0 hpw hpl fT qaC qcb hPL hsp vO hml bG hop hnew qi2 dV qjF hP ny;go_wp2_with fail;refine qQ (by kernel_rfl) 9 [35,36,37,38,39,40,41,42,43] (by kernel_rfl) (qs8 (fun j=>(o1 j∧j≠v)∨w.heap.size<j) v w.heap.size (zq A0 A1 A2 c0 c1 c2 m) (eu f none 0 0) src qo (.slice BA pn bc)) (qkO _ _ _ _ _ _ _ _) ?_ ?_
   ·intro i o vs ρ W hi hop hρ hfn hb hG;have t0:ρ (.tmp 0)=pt v:=hρ.out 0 rfl;have t4:ρ (.tmp 4)=pt w.heap.size:=hρ.out 4 rfl;have t9:ρ (.tmp 9)=.slice BA pn bc:=hρ.out 9 rfl;have s35:=hρ.at_ 35 0 rfl;have s36:=hρ.at_ 36 1 rfl;have s37:=hρ.at_ 37 2 rfl;have s38:=hρ.at_ 38 3 rfl;have s39:=hρ.at_ 39 4 rfl;have s40:=hρ.at_ 40 5 rfl;have s41:=hρ.at_ 41 6 rfl;have nb:=iW.out.below hb;obtain⟨bE,k0,k1,k2,k3,k4,k5,k6,k7,k8,k9,cV⟩:=nb.cells;have hr:=HR4.out.below hb;have r0:=hr.cell 0;have r1:=hr.cell 1;have r2:=hr.cell 2;have r3:=hr.cell 3;have r4:=hr.cell 4;have r5:=hr.cell 5;have r6:=hr.cell 6;have rlt:=hr.lt;simp only[eu,QA,QB,QC]at r0 r1 r2 r3 r4 r5 r6;rcases i with _|_|_|_|_|_|_|_|_|i;all_goals (first|omega|skip)
    all_goals simp only[QA,QB,QC,Option.some.injEq]at hop
    all_goals subst hop
    ·exact q9 (w':=W) (by unfold execOp;simp only[t0];go_simp) ⟨Below.refl _ _,rfl⟩
    ·have g0:vs 0=_:=hG 0 (by kernel_rfl);exact q9 (w':=W) (by unfold execOp;simp only[s35,g0];go_simp) ⟨Below.refl _ _,rfl⟩
    ·have g1:vs 1=_:=hG 1 (by kernel_rfl);exact q9 (w':=W) (by unfold execOp;simp only[s36,g1];go_simp) ⟨Below.refl _ _,rfl⟩
    ·have g2:vs 2=_:=hG 2 (by kernel_rfl);exact q9 (w':=W) (by unfold zq execOp;simp only[s37,g2];go_simp) ⟨Below.refl _ _,rfl⟩
    ·exact q9 (w':=W) (by unfold eu execOp;simp only[t4];go_simp) ⟨Below.refl _ _,rfl⟩
    ·have g3:vs 3=_:=hG 3 (by kernel_rfl);have g4:vs 4=_:=hG 4 (by kernel_rfl);refine qj (f:=65) (args:=#[.agg (zq A0 A1 A2 c0 c1 c2 m),.agg (eu f none 0 0)]) (w':=W) (by unfold execOp;simp only[hfn,s38,g3,s39,g4];go_simp) ((qgY (G:=fun j=>(o1 j∧j≠v)∨w.heap.size<j) (nb.tab.mono (fun j hj=>.inl hj)) nb.sz (fun j hj=>.inr (by omega)) f none 0 0).mono ?_);rintro e W' ⟨A,c,rfl,vO,hb5⟩;rw[q7l.out]at vO ⊢;exact⟨_,rfl,hb5,A,c,rfl,vO⟩
    ·exact q9 (w':=W) (by unfold execOp;simp only[t9];go_simp) ⟨Below.refl _ _,rfl⟩
    ·obtain⟨A,c,g5,vO⟩:=hG 5 (by kernel_rfl);have g6:vs 6=_:=hG 6 (by kernel_rfl);have hp:=qen.out W A c;refine qj (f:=58) (args:=#[.slice A src.length c,.slice BA pn bc]) (w':=W) (by unfold execOp;simp only[hfn,s40,g5,s41,g6];go_simp) ((hp vO hb).mono ?_);rintro e W' ⟨A,c,rfl,vO,hb5⟩;exact⟨_,rfl,hb5,A,c,rfl,vO⟩
    ·exact q9 (w':=W) (by unfold execOp;simp only[t4];go_simp) ⟨Below.refl _ _,rfl⟩
   ·intro vs W hb hG;have g0:vs 0=_:=hG 0 (by decide);have g3:vs 3=_:=hG 3 (by decide);have g8:vs 8=_:=hG 8 (by decide);obtain⟨AL,cL,g7,vO⟩:=hG 7 (by decide);have hr:=HR4.out.below hb;have f6:=hr.frozen 6;have r6:=hr.cell 6;have rlt:=hr.lt;simp only[eu,QA,QB,QC]at r6;have jX:Hid (Below w.heap.size w (W.setCell ⟨w.heap.size,6,none⟩ (.slice AL qo.length cL))):=(qc x9.out hb).setCell (p:=⟨w.heap.size,6,none⟩) (Nat.le_refl _) _;have eY:Hid (qg (W.setCell ⟨w.heap.size,6,none⟩ (.slice AL qo.length cL)) w.heap.size 59 (eu f AL qo.length cL)):=by
     have:=hr.ql 6 (.slice AL qo.length cL);simpa[Hid,eu]using this
    have HS5:Hid (aA (fun j=>(o1 j∧j≠v)∨w.heap.size≤j) (W.setCell ⟨w.heap.size,6,none⟩ (.slice AL qo.length cL)) AL qo cL) :=
     (vO.stay (wN (fun j hj=>by
      rcases hj with hj|hj
      ·have:=qoN np.out j (.inl hj.1);omega
      ·omega))).mono (fun j hj=>by
      rcases hj with hj|hj
      ·exact .inl hj
      ·exact .inr (by omega))
    have HP5:Hid (PlL (W.setCell ⟨w.heap.size,6,none⟩ (.slice AL qo.length cL)) BA P):=(HPL.out.below hb).set (fun b o s e=>by
     have h1:=qcR.out b o s e;have h2:=eG.out.lt;omega)
    obtain⟨W5,iF⟩:=QE (W.setCell ⟨w.heap.size,6,none⟩ (.slice AL qo.length cL));rw[iF]at jX eY HS5 HP5;simp only[za,qN,if_true];rw[g7,g8];generalize vs 0=z0;generalize vs 1=z1;generalize vs 2=z2;generalize vs 3=z3;generalize vs 4=z4;generalize vs 5=z5;generalize vs 6=z6;clear hG g0 g3 g7 g8 hb vO hr qen HPL qcR;simp only[Act.put,List.setIfInBounds_toArray,List.set_cons_succ,List.set_cons_zero];refine qL (i:=9) (by kernel_rfl) rfl rfl ?_;go_simp;try rw[iF]
    clear f6 r6 rlt iF;refine⟨by kernel_rfl,?_⟩;have j0:=eY.out.cell 0;have j1:=eY.out.cell 1;have j2:=eY.out.cell 2;have j3:=eY.out.cell 3;have j4:=eY.out.cell 4;have j5:=eY.out.cell 5;have j6:=eY.out.cell 6;have jlt:=eY.out.lt;simp only[eu,QA,QB,QC]at j0 j1 j2 j3 j4 j5 j6;by_cases hn:f.next=f.all
    ·have hlt:¬ f.next<f.all:=by omega
     have dn:Hid (PN.code=0∧PN.m=s3M m f qo∧PN.ws=ws):=by
      unfold Hid;rcases nQ.out with⟨_,h⟩|⟨h,_⟩
      ·rw[h];exact⟨rfl,rfl,rfl⟩
      ·exact absurd hn h
     have HDK:=QH (nS.out dn.out.1);clear hn;go_wp2_with fail;refine qQ (by kernel_rfl) 13 [55,56,57,58,59,60,61,62,63,64,65,66,67] (by kernel_rfl) (qs9 (fun j=>(o1 j∧j≠v)∨w.heap.size≤j) v w.heap.size (.slice BA pn bc) (.slice AL qo.length cL) m f qo) (qkP _ _ _ _ _ _ _ _) ?_ ?_
     ·intro i o vs ρ W hi hop hρ hfn hb hG;have t0:ρ (.tmp 0)=pt v:=hρ.out 0 rfl;have t4:ρ (.tmp 4)=pt w.heap.size:=hρ.out 4 rfl;have t9:ρ (.tmp 9)=.slice BA pn bc:=hρ.out 9 rfl;have s57:=hρ.at_ 57 2 rfl;have s58:=hρ.at_ 58 3 rfl;have s59:=hρ.at_ 59 4 rfl;have s60:=hρ.at_ 60 5 rfl;have s61:=hρ.at_ 61 6 rfl;have s62:=hρ.at_ 62 7 rfl;have s63:=hρ.at_ 63 8 rfl;have s64:=hρ.at_ 64 9 rfl;have s65:=hρ.at_ 65 10 rfl;have s66:=hρ.at_ 66 11 rfl;have hr:=eY.out.below hb;have q2:=hr.cell 2;have q3:=hr.cell 3;have q6:=hr.cell 6;have qlt:=hr.lt;simp only[eu,QA,QB,QC]at q2 q3 q6;have hsW:=HS5.out.stay (uS.of_below hb);have hiW:qo.length≤1000:=by rw[HIL.out];have:=HR.out.ok.b8;omega
      have hsz:w.heap.size≤W.heap.size:=Nat.le_trans jX.out.size hb.size;clear j0 j1 j2 j3 j4 j5 j6 jlt;rcases i with _|_|_|_|_|_|_|_|_|_|_|_|_|i;all_goals (first|omega|skip)
      all_goals simp only[QA,QB,QC,Option.some.injEq]at hop
      all_goals subst hop
      ·exact q9 (w':=W) (by unfold execOp;simp only[t0];go_simp) ⟨Below.refl _ _,rfl⟩
      ·exact q9 (w':=W) (by unfold execOp;simp only[t9];go_simp) ⟨Below.refl _ _,rfl⟩
      ·exact q9 (w':=W) (by unfold execOp;simp only[t4];go_simp) ⟨Below.refl _ _,rfl⟩
      ·have g2:vs 2=_:=hG 2 (by kernel_rfl);exact q9 (w':=W) (by unfold execOp;simp only[s57,g2];go_simp) ⟨Below.refl _ _,rfl⟩
      ·exact q9 (w':=W) (by unfold execOp;simp only[t4];go_simp) ⟨Below.refl _ _,rfl⟩
      ·have g4:vs 4=_:=hG 4 (by kernel_rfl);exact q9 (w':=W) (by unfold execOp;simp only[s59,g4];go_simp) ⟨Below.refl _ _,rfl⟩
      ·have g3:vs 3=_:=hG 3 (by kernel_rfl);have g5:vs 5=_:=hG 5 (by kernel_rfl);refine qj (f:=66) (args:=#[gv f.target,.slice AL qo.length cL]) (w':=W) (by unfold execOp gv;simp only[hfn,s58,g3,s60,g5];go_simp) ((qdB (G:=fun j=>(o1 j∧j≠v)∨w.heap.size≤j) hsW.at_ hiW HFB.out.target (fun j hj=>.inr (Nat.le_trans hsz hj))).mono ?_);rintro e W' ⟨fe,rfl,lS,hb5⟩;exact⟨fe,rfl,hb5,dE.of (lS m (s1M m f qo) ⟨by have:=HR.out.ok.few;omega,rfl⟩)⟩
      ·exact q9 (w':=W) (by unfold execOp;simp only[t4];go_simp) ⟨Below.refl _ _,rfl⟩
      ·have g7:vs 7=_:=hG 7 (by kernel_rfl);exact q9 (w':=W) (by unfold execOp;simp only[s62,g7];go_simp) ⟨Below.refl _ _,rfl⟩
      ·have g8:vs 8=_:=hG 8 (by kernel_rfl);refine qj (f:=57) (args:=#[.slice AL qo.length cL]) (w':=W) (by unfold execOp;simp only[hfn,s63,g8];go_simp) ((lz (G:=fun j=>(o1 j∧j≠v)∨w.heap.size≤j) hsW hiW (fun j hj=>.inr (Nat.le_trans hsz hj))).mono ?_);rintro e W' ⟨fe,rfl,lS,hb5⟩;exact⟨fe,rfl,hb5,dE.of (lS (s1M m f qo) _ rfl)⟩
      ·exact q9 (w':=W) (by unfold eJ zR execOp;go_simp) ⟨Below.refl _ _,rfl⟩
      ·have g10:vs 10=_:=hG 10 (by kernel_rfl);refine qj (f:=60) (args:=#[.agg (eJ zR none 0 0)]) (w':=W) (by unfold execOp;simp only[hfn,s65,g10];go_simp) ((vk (G:=fun j=>(o1 j∧j≠v)∨w.heap.size≤j) (t:=zR) (yQ.none W) (by decide) qep (fun j hj=>.inr (Nat.le_trans hsz hj))).mono ?_);rintro e W' ⟨fe,rfl,lS,hb5⟩;exact⟨fe,rfl,hb5,dE.of (lS (s2M m f qo) _ rfl)⟩
      ·have g6:=hG 6 (by kernel_rfl);have g9:=hG 9 (by kernel_rfl);have g11:=hG 11 (by kernel_rfl);obtain⟨⟨ka,ca,ea⟩,ga⟩:=g6;obtain⟨⟨kb,cb,eb⟩,gb⟩:=g9;obtain⟨⟨kc,cc,ec⟩,gc⟩:=g11;have hb1:=(Below.refl _ W).alloc (Nat.le_refl _) (.cells #[.func (.func ka) #[] ca,.func (.func kb) #[] cb,.func (.func kc) #[] cc] 115);rw[ea]at ga;rw[eb]at gb;rw[ec]at gc;exact q9 (v:=.slice (some ⟨W.heap.size,0,none⟩) 3 3) (w':=W.alloc (.cells #[.func (.func ka) #[] ca,.func (.func kb) #[] cb,.func (.func kc) #[] cc] 115)) (by unfold execOp;simp only[s61,ea,s64,eb,s66,ec];go_simp) ⟨hb1,_,_,_,_,rfl,qg.new _ _ _,(dE.of ga).below hb1,(dE.of gb).below hb1,(dE.of gc).below hb1⟩
     ·intro vs W hb hG;have g0:vs 0=_:=hG 0 (by decide);have g1:vs 1=_:=hG 1 (by decide);obtain⟨B,f1,f2,f3,g12,vn,he1,tT,he3⟩:=hG 12 (by decide);have ew:=QH (gT np.out (qc jX.out hb) HJ.out HFU.out HR.out dn.out.1 HDK.out (M:=fun i=>if i=0 then m else if i=1 then s1M m f qo else if i=2 then s2M m f qo else s3M m f qo) (n:=3) (c:=3) rfl (dn.out.2.1.symm) (rV vn he1.2 tT.2 he3.2) (by omega) (cb:=bc) (HP5.out.below hb) (by rw[qkF.out];have:=HX8.out;omega) (HPW.out.trans dn.out.2.2.symm));rw[HPN.out]at ew;simp only[za,qN,if_true];rw[g0,g1,g12];generalize vs 2=z2;generalize vs 3=z3;generalize vs 4=z4;generalize vs 5=z5;generalize vs 6=z6;generalize vs 7=z7;generalize vs 8=z8;generalize vs 9=z9;generalize vs 10=z10;generalize vs 11=z11;clear hG g0 g1 g12 hb vn he1 tT he3 j0 j1 j2 j3 j4 j5 j6 jlt;simp only[Act.put,List.setIfInBounds_toArray,List.set_cons_succ,List.set_cons_zero];refine qL (i:=13) (by kernel_rfl) rfl rfl ?_;go_simp;refine ew.out.mono ?_;rintro e W7 ⟨r,d',m',lost,dJ,wW,rfl,hh⟩;have HH:=QH hh;clear hh ew;go_simp;refine qL (i:=14) (by kernel_rfl) rfl rfl ?_;go_simp;refine⟨by kernel_rfl,?_⟩;go_wp2_with fail;go_ret;exact⟨r,d',m',lost,dJ,wW,rfl,HH.out⟩
    ·have hlt:f.next<f.all:=by have:=HLE.out;omega
     have dn:Hid (PN.code=0∧PN.m={ m with tok:=qpe f qo }∧PN.ws=ws):=by
      unfold Hid;rcases nQ.out with⟨h,_⟩|⟨_,h⟩
      ·exact absurd h hn
      ·rw[h];exact⟨rfl,rfl,rfl⟩
     have HDK:=QH (nS.out dn.out.1);have hst:=vk (G:=fun j=>(o1 j∧j≠v)∨w.heap.size≤j) (t:=qpe f qo) (A:=AL) (c:=cL) HS5.out.at_ (by show qo.length≤1000;rw[HIL.out];have:=HR.out.ok.b8;omega) ⟨HFB.out.base,HFB.out.target,HFB.out.next,HFB.out.all⟩ (fun j hj=>.inr (Nat.le_trans jX.out.size hj));unfold eJ qpe at hst;have HST:=QH hst;clear hn hst;go_wp2_with fail;refine HST.out.mono ?_;rintro e W6 ⟨fe,rfl,lS,kV⟩;have HEF:=QH (lS m PN.m dn.out.2.1);obtain⟨kf,ky,rfl⟩:=HEF.out.form;have dH:=QH (qc jX.out kV);have HP6:=QH (HP5.out.below kV);clear lS kV HST HP5 j0 j1 j2 j3 j4 j5 j6 jlt;have iH:=(Below.refl _ W6).alloc (Nat.le_refl _) (.cells #[.func (.func kf) #[] ky] 115);have hk7:=qg.new W6 115 #[.func (.func kf) #[] ky];obtain⟨W7,hW7⟩:=QE (W6.alloc (.cells #[.func (.func kf) #[] ky] 115));rw[hW7]at iH hk7;have ew:=QH (gT np.out (qc dH.out iH) HJ.out HFU.out HR.out dn.out.1 HDK.out (c:=1) rfl rfl (ir hk7 (HEF.out.below iH)) (by omega) (cb:=bc) (HP6.out.below iH) (by rw[qkF.out];have:=HX8.out;omega) (HPW.out.trans dn.out.2.2.symm));rw[HPN.out]at ew;clear iH hk7 HEF HP6;go_wp2_with fail;try rw[hW7]
     refine ew.out.mono ?_;rintro e W8 ⟨r,d',m',lost,dJ,wW,rfl,hh⟩;have HH:=QH hh;clear hh ew;go_wp2_with fail;go_ret;exact⟨r,d',m',lost,dJ,wW,rfl,HH.out⟩
end Go.Proofs.YtdagdllomphidaaGreatDoor.vt.pg

/- VgTok, Step, JWrites, JKept, JAlike, JReady, JWorks, JAllP, JTwiceP, JKnP, JKnC, VgOpn, DkApp2, DkCopy, DkCopy2, VgFmt, VgSnp, VgRol, VgTb6, VgStp, VgStA, VgCgs, PgMay, PgPut, PgFind. -/
import Derived.Test.YtdpbdkacngaemaaGreatDoorZF8
import Derived.Deep.RegionLawGrows
import Derived.Shelf.SlMaps.Clone
import Derived.Laws.Cover3
set_option linter.unusedVariables false
set_option linter.unusedSimpArgs false
set_option maxHeartbeats 30000000
set_option maxRecDepth 100000
namespace Go.Proofs.YtdpbdkacngaemaaGreatDoor.vt.pg
open _root_.Go.Proofs.Tryz Go Go.RowKit Go.Sort ib mt im sp
def qgM (W:World)(g:Nat)(t:Tk)(v:Value):World :=
 ((((((W.setCell ⟨g,0,none⟩ (.int .u64 (t.base.1:Int))).setCell ⟨g,1,none⟩ (.int .u64 (t.base.2:Int))).setCell ⟨g,2,none⟩ (.int .u64 (t.target.1:Int))).setCell ⟨g,3,none⟩ (.int .u64 (t.target.2:Int))).setCell ⟨g,4,none⟩ (.int .i64 t.next)).setCell ⟨g,5,none⟩ (.int .i64 t.all)).setCell ⟨g,6,none⟩ v
theorem qdN{W:World}{g:Nat}{z0 z1 z2 z3 z4 z5 z6:Value}(t:Tk)(A:Option Addr)(c:Nat)(h:qf W g 82 #[z0,z1,z2,z3,z4,z5,z6]):qf (qgM W g t (.slice A t.qp.length c)) g 82 (rh t A t.qp.length c):=by
 have h9:=((((((h.qg 0 (.int .u64 (t.base.1:Int))).qg 1 (.int .u64 (t.base.2:Int))).qg 2 (.int .u64 (t.target.1:Int))).qg 3 (.int .u64 (t.target.2:Int))).qg 4 (.int .i64 t.next)).qg 5 (.int .i64 t.all)).qg 6 (.slice A t.qp.length c);simp only[List.setIfInBounds_toArray,List.set_cons_succ,List.set_cons_zero]at h9;exact h9
theorem rr {W0 W:World}{g:Nat}{v:Value}{t:Tk}(h:Below W0.heap.size W0 W)(hg:W0.heap.size≤g):Below W0.heap.size W0 (qgM W g t v) :=
 ((((((h.setCell (p:=⟨g,0,none⟩) hg _).setCell (p:=⟨g,1,none⟩) hg _).setCell (p:=⟨g,2,none⟩) hg _).setCell (p:=⟨g,3,none⟩) hg _).setCell (p:=⟨g,4,none⟩) hg _).setCell (p:=⟨g,5,none⟩) hg _).setCell (p:=⟨g,6,none⟩) hg _
theorem qoP(W:World)(g:Nat)(v:Value)(t:Tk):ib.qz (fun j=>j=g) W (qgM W g t v) :=
 (((((((ib.qz.refl (fun j=>j=g) W).setCell ⟨g,0,none⟩ _ (.inl rfl)).setCell ⟨g,1,none⟩ _ (.inl rfl)).setCell ⟨g,2,none⟩ _ (.inl rfl)).setCell ⟨g,3,none⟩ _ (.inl rfl)).setCell ⟨g,4,none⟩ _ (.inl rfl)).setCell ⟨g,5,none⟩ _ (.inl rfl)).setCell ⟨g,6,none⟩ _ (.inl rfl)
theorem q1v{W:World}{g:Nat}(t:Tk)(A:Option Addr)(c:Nat)(h:qf W g 82 (rh t A t.qp.length c)):(loadVar 82 ⟨g,0,none⟩).run prog W=.ok (.agg (rh t A t.qp.length c)) W :=
 run_loadVar_row W g 82 82 _ (0,0) _ h underlying82 rfl (by kernel_rfl)
theorem qs0{w:World}{A:Option Addr}{l:List Int}(h:ib.qI w A l):qzC w A l:=fun i hi=>by
 obtain⟨b,o,h1,h2,h3,_⟩:=h i hi;exact⟨b,o,h1,h2,h3⟩
def tz:Array Value:=#[.int .u64 0,.int .u64 0,.int .u64 0,.int .u64 0,.int .i64 0,.int .i64 0,.slice none 0 0]
def q1w (W:World)(g:Nat):World :=
 ((((((W.setCell ⟨g,0,none⟩ (.int .u64 0)).setCell ⟨g,1,none⟩ (.int .u64 0)).setCell ⟨g,2,none⟩ (.int .u64 0)).setCell ⟨g,3,none⟩ (.int .u64 0)).setCell ⟨g,4,none⟩ (.int .i64 0)).setCell ⟨g,5,none⟩ (.int .i64 0)).setCell ⟨g,6,none⟩ (.slice none 0 0)
theorem qdO{W:World}{g:Nat}(h:qf W g 82 tz):qf (q1w W g) g 82 tz:=by
 have h9:=((((((h.qg 0 (.int .u64 0)).qg 1 (.int .u64 0)).qg 2 (.int .u64 0)).qg 3 (.int .u64 0)).qg 4 (.int .i64 0)).qg 5 (.int .i64 0)).qg 6 (.slice none 0 0);simp only[tz,List.setIfInBounds_toArray,List.set_cons_succ,List.set_cons_zero]at h9;exact h9
theorem ru {W0 W:World}{g:Nat}(h:Below W0.heap.size W0 W)(hg:W0.heap.size≤g):Below W0.heap.size W0 (q1w W g) :=
 ((((((h.setCell (p:=⟨g,0,none⟩) hg _).setCell (p:=⟨g,1,none⟩) hg _).setCell (p:=⟨g,2,none⟩) hg _).setCell (p:=⟨g,3,none⟩) hg _).setCell (p:=⟨g,4,none⟩) hg _).setCell (p:=⟨g,5,none⟩) hg _).setCell (p:=⟨g,6,none⟩) hg _
theorem que{W:World}{g:Nat}(h:qf W g 82 tz):(loadVar 82 ⟨g,0,none⟩).run prog W=.ok (.agg tz) W :=
 run_loadVar_row W g 82 82 _ (0,0) _ h underlying82 rfl (by kernel_rfl)
theorem q5T:tkV (tf yB) none 0 0=.agg tz:=by
 simp only[tkV,tf,yB,tz];simp
theorem eP {w w':World}(hb:Below w.heap.size w w'):ew yB w (.returned (.agg tz)) w' :=
 ⟨none,0,by rw[← q5T];rfl,fun i h=>absurd h (by simp[yB]),ib.wa.none _ _,hb⟩
theorem qgN(w:World):Calls prog 41 #[.pointer none] w (ew yB w):=by
 have hb:=(Below.refl _ w).alloc (Nat.le_refl _) (.cells tz 82);have hk:=qf.new w 82 tz;obtain⟨W,hW⟩:=QE (w.alloc (.cells tz 82));rw[hW]at hb hk;have HE:=QH (eP (ru hb (Nat.le_refl _)));have HL:=QH (que (qdO hk));have q0:=hk.cell 0;have q1:=hk.cell 1;have q2:=hk.cell 2;have q3:=hk.cell 3;have q4:=hk.cell 4;have q5:=hk.cell 5;have q6:=hk.cell 6;have f0:=hk.frozen 0;have f1:=hk.frozen 1;have f2:=hk.frozen 2;have f3:=hk.frozen 3;have f4:=hk.frozen 4;have f5:=hk.frozen 5;have f6:=hk.frozen 6;have ma:=hk.lt;simp only[tz,QA,QB,QC]at q0 q1 q2 q3 q4 q5 q6;unfold tz at hW;clear hb hk;go_enter func41,ntmps41;go_upto_region 1 with fail;try rw[hW]
 clear hW;go_wp2_with fail;exact bodyPost_ret (v:=.agg tz) (im.zf rfl _ _ _ ⟨w.heap.size,0,none⟩ _ rfl HL.out) rfl HE.out
theorem iB {o:Nat→Prop}{w:World}{v pd:Nat}{m:Mt}{l:Bool}(h:ag o w v pd m l):Calls prog 41 #[pt v] w (ew m.tok w):=by
 have hb:=(Below.refl _ w).alloc (Nat.le_refl _) (.cells tz 82);have hk:=qf.new w 82 tz;obtain⟨W,hW⟩:=QE (w.alloc (.cells tz 82));rw[hW]at hb hk;obtain⟨A0,A1,A2,c0,c1,c2,hA0⟩:=h;have hA:=hA0.below hb;have HA:=QH hA;have HK:=QH hk;have HB:=QH hb;have HTN:=QH (qgg (w:=W) (A0:=A0) (A1:=A1) (A2:=A2) (c0:=c0) (c1:=c1) (c2:=c2) m);obtain⟨q,hq⟩:=QE (decide (m.tok.target=(0,0)));rw[hq]at HTN;have HQ:=QH hq;obtain⟨klt,k0,k1,k2,k3,k4,k5,k6,k7,k8,k9,ee⟩:=hA.cells;unfold zF at HTN;unfold tz at hW;clear hb hk hA hA0 hq;go_enter func41,ntmps41;go_upto_region 1 with fail;try rw[hW]
 clear hW;go_wp2_with fail;refine HTN.out.mono ?_;rintro e W1 ⟨rfl,hb1⟩;have qO:=QH (qa HB.out hb1);have zt:=HK.out.below hb1;have bz:=QH zt;have ia:=QH (HA.out.below hb1);have mH:Hid (w.heap.size<W.heap.size∧W.heap.size≤W1.heap.size):=⟨HK.out.lt,hb1.size⟩;clear hb1 HTN k0 k1 k2 k3 k4 k5 k6 k7 k8 k9 ee klt HA HK HB;have q0:=zt.cell 0;have q1:=zt.cell 1;have q2:=zt.cell 2;have q3:=zt.cell 3;have q4:=zt.cell 4;have q5:=zt.cell 5;have q6:=zt.cell 6;have f0:=zt.frozen 0;have f1:=zt.frozen 1;have f2:=zt.frozen 2;have f3:=zt.frozen 3;have f4:=zt.frozen 4;have f5:=zt.frozen 5;have f6:=zt.frozen 6;have ma:=zt.lt;simp only[tz,QA,QB,QC]at q0 q1 q2 q3 q4 q5 q6;clear zt;cases q with
 | true =>
  have jH:=QH (ia.out.tk (of_decide_eq_true HQ.out));have HE:=QH (eP (ru qO.out (Nat.le_refl _)));have HL:=QH (que (qdO bz.out));go_wp2_with fail;refine bodyPost_ret (v:=.agg tz) (im.zf rfl _ _ _ ⟨w.heap.size,0,none⟩ _ rfl HL.out) rfl ?_;rw[jH.out];exact HE.out
 | false =>
  obtain⟨klt,k0,k1,k2,k3,k4,k5,k6,k7,k8,k9,ee⟩:=ia.out.cells;have hb2:=(Below.refl _ W1).alloc (Nat.le_refl _) (.cells tz 82);have hk2:=qf.new W1 82 tz;obtain⟨W2,hW2⟩:=QE (W1.alloc (.cells tz 82));rw[hW2]at hb2 hk2;have hb3:=rr (v:=.slice A2 m.tok.qp.length c2) (t:=m.tok) hb2 (Nat.le_refl _);have hk3:=qdN m.tok A2 c2 hk2;have s0:=hk2.cell 0;have s1:=hk2.cell 1;have s2:=hk2.cell 2;have s3:=hk2.cell 3;have s4:=hk2.cell 4;have s5:=hk2.cell 5;have s6:=hk2.cell 6;have g0:=hk2.frozen 0;have g1:=hk2.frozen 1;have g2:=hk2.frozen 2;have g3:=hk2.frozen 3;have g4:=hk2.frozen 4;have g5:=hk2.frozen 5;have g6:=hk2.frozen 6;have bm:=hk2.lt;simp only[tz,QA,QB,QC]at s0 s1 s2 s3 s4 s5 s6;have zv:=QH (qa qO.out hb3);have sF:=QH hk3;have iC:=QH (bz.out.below hb3);have HI3:=QH (ia.out.tab.qp.at_.below hb3);have HIM:=QH ia.out.sz.qp;have ig:Hid (w.heap.size<W1.heap.size∧W1.heap.size<(qgM W2 W1.heap.size m.tok (.slice A2 m.tok.qp.length c2)).heap.size):=⟨bz.out.lt,hk3.lt⟩;unfold tz at hW2;clear hb2 hk2 hb3 hk3;go_upto_region 4 with fail;try rw[hW2]
  show Code.wp _ _ _ _ (qgM W2 W1.heap.size m.tok (.slice A2 m.tok.qp.length c2));obtain⟨W3,hW3⟩:=QE (qgM W2 W1.heap.size m.tok (.slice A2 m.tok.qp.length c2));rw[hW3]at zv sF iC HI3 ig ⊢;clear hW3 hW2 s0 s1 s2 s3 s4 s5 s6 g0 g1 g2 g3 g4 g5 g6 bm q0 q1 q2 q3 q4 q5 q6 f0 f1 f2 f3 f4 f5 f6 ma k0 k1 k2 k3 k4 k5 k6 k7 k8 k9 ee klt;have HC:=QH (gu A2 c2 m.tok.qp W3 HI3.out HIM.out);have q6:=sF.out.cell 6;have ma:=sF.out.lt;simp only[rh,QA,QB,QC]at q6;go_wp2_with fail;refine HC.out.mono ?_;rintro e W4 eo;obtain rfl:=eo.1;have hb4:=eo.2.2;have hs4:=eo.sl HI3.out.ints.mem (fun j=>j=W3.heap.size) rfl;have hk4:=sF.out.below hb4;have hr4:=iC.out.below hb4;have hl4:=ig.out;have hz4:=hb4.size;have HK5:Hid (qf (W4.setCell ⟨W1.heap.size,6,none⟩ (.slice (some ⟨W3.heap.size,0,none⟩) m.tok.qp.length m.tok.qp.length)) W1.heap.size 82 (rh m.tok (some ⟨W3.heap.size,0,none⟩) m.tok.qp.length m.tok.qp.length)):=by
   have:=hk4.qg 6 (.slice (some ⟨W3.heap.size,0,none⟩) m.tok.qp.length m.tok.qp.length);simpa[Hid,rh]using this
  have uU:Hid (qf (W4.setCell ⟨W1.heap.size,6,none⟩ (.slice (some ⟨W3.heap.size,0,none⟩) m.tok.qp.length m.tok.qp.length)) w.heap.size 82 tz):=hr4.of_block (qw _ _ _ _ _ (by omega));have yw:Hid (Below w.heap.size w (W4.setCell ⟨W1.heap.size,6,none⟩ (.slice (some ⟨W3.heap.size,0,none⟩) m.tok.qp.length m.tok.qp.length))):=(qa zv.out hb4).setCell (p:=⟨W1.heap.size,6,none⟩) (by show w.heap.size≤W1.heap.size;omega) _;have wU:Hid (bu (fun j=>j=W3.heap.size) (W4.setCell ⟨W1.heap.size,6,none⟩ (.slice (some ⟨W3.heap.size,0,none⟩) m.tok.qp.length m.tok.qp.length)) (some ⟨W3.heap.size,0,none⟩) m.tok.qp m.tok.qp.length):=hs4.stay (ai fun j hj=>by omega);have k6:=hk4.cell 6;have f6:=hk4.frozen 6;have jG:=hk4.lt;simp only[rh,QA,QB,QC]at k6;have q1x:Hid (W3.heap.size<(W4.setCell ⟨W1.heap.size,6,none⟩ (.slice (some ⟨W3.heap.size,0,none⟩) m.tok.qp.length m.tok.qp.length)).heap.size):=by
   have:=eo.2.1.lt;simpa[Hid,World.setCell]using this
  obtain⟨W5,ic⟩:=QE (W4.setCell ⟨W1.heap.size,6,none⟩ (.slice (some ⟨W3.heap.size,0,none⟩) m.tok.qp.length m.tok.qp.length));rw[ic]at HK5 uU yw wU q1x;clear eo hb4 hs4 hk4 hr4 hl4 hz4 HC q6 ma;go_upto_region 5 with fail;try rw[ic]
  clear ic k6 f6 jG;have j0:=HK5.out.cell 0;have j1:=HK5.out.cell 1;have j2:=HK5.out.cell 2;have j3:=HK5.out.cell 3;have j4:=HK5.out.cell 4;have j5:=HK5.out.cell 5;have j6:=HK5.out.cell 6;have jlt:=HK5.out.lt;simp only[rh,QA,QB,QC]at j0 j1 j2 j3 j4 j5 j6;have q0:=uU.out.cell 0;have q1:=uU.out.cell 1;have q2:=uU.out.cell 2;have q3:=uU.out.cell 3;have q4:=uU.out.cell 4;have q5:=uU.out.cell 5;have q6:=uU.out.cell 6;have f0:=uU.out.frozen 0;have f1:=uU.out.frozen 1;have f2:=uU.out.frozen 2;have f3:=uU.out.frozen 3;have f4:=uU.out.frozen 4;have f5:=uU.out.frozen 5;have f6:=uU.out.frozen 6;have ma:=uU.out.lt;simp only[tz,QA,QB,QC]at q0 q1 q2 q3 q4 q5 q6;have vg:=rr (v:=.slice (some ⟨W3.heap.size,0,none⟩) m.tok.qp.length m.tok.qp.length) (t:=m.tok) yw.out (Nat.le_refl _);have HL:=QH (q1v m.tok (some ⟨W3.heap.size,0,none⟩) m.tok.qp.length (qdN m.tok (some ⟨W3.heap.size,0,none⟩) m.tok.qp.length uU.out));have HE:Hid (ew m.tok w (.returned (.agg (rh m.tok (some ⟨W3.heap.size,0,none⟩) m.tok.qp.length m.tok.qp.length))) (qgM W5 w.heap.size m.tok (.slice (some ⟨W3.heap.size,0,none⟩) m.tok.qp.length m.tok.qp.length))):=by
   have xJ:=qoP W5 w.heap.size (.slice (some ⟨W3.heap.size,0,none⟩) m.tok.qp.length m.tok.qp.length) m.tok;have hs6:=wU.out.stay (wG.nP xJ (fun j hj=>by have:=ig.out;show ¬ j=w.heap.size;omega));refine⟨some ⟨W3.heap.size,0,none⟩,m.tok.qp.length,rfl,qs0 hs6.at_.ints,fun b o e=>?_,vg⟩;simp only[Option.some.injEq,Addr.mk.injEq,and_true]at e;have h1:=ig.out;have h2:=wU.out;have h3:=xJ.size;refine⟨by omega,?_⟩;have:=q1x.out;omega
  clear vg;go_wp2_with fail;exact bodyPost_ret (v:=.agg (rh m.tok (some ⟨W3.heap.size,0,none⟩) m.tok.qp.length m.tok.qp.length)) (im.zf rfl _ _ _ ⟨w.heap.size,0,none⟩ _ rfl HL.out) rfl HE.out
end Go.Proofs.YtdpbdkacngaemaaGreatDoor.vt.pg
namespace Go.Proofs.YtdpbdkacngaemaaGreatDoor
open _root_.Go.Proofs.Tryz Go Go.RowKit
end Go.Proofs.YtdpbdkacngaemaaGreatDoor
namespace Go.Proofs.YtdpbdkacngaemaaGreatDoor.jr
open _root_.Go.Proofs.Tryz Go Go.RowKit dk wi
structure q1y where
 at_:Int
 c:UInt8
 short:Bool
def qbK (w:World)(a:Option Addr)(zs:List q1y):Prop :=
 ∀i (h:i<zs.length),∃b o,a=some ⟨b,o,none⟩∧b<w.heap.size∧w.cell? ⟨b,o+i*3,none⟩=some (.int .i64 zs[i].at_)∧w.cell? ⟨b,o+i*3+1,none⟩=some (.int .u8 (zs[i].c.toNat:Int))∧w.cell? ⟨b,o+i*3+2,none⟩=some (.bool zs[i].short)∧qD zs[i].at_
theorem qk0(n:Nat)(k:Int):dk.look (List.replicate n none) k=none:=by
 unfold dk.look;split
 ·rw[List.getElem?_replicate];split <;> rfl
 ·rfl
theorem JJ.n{tgt:Int→Bt}{d:DD}(h:JJ 200 tgt d):d.n=200:=h.rb.1
theorem JJ.now{tgt:Int→Bt}{d:DD}(h:JJ 200 tgt d):d.now=d.base:=by unfold DD.now;rw[h.more];rfl
theorem JJ.read{tgt:Int→Bt}{d:DD}(h:JJ 200 tgt d)(k:Int)(h0:145≤k)(h1:k<200):d.read k=(tgt k,0):=by
 unfold DD.read;have:d.has k=true:=by
  unfold DD.has;rw[h.n];simp;omega
 rw[if_neg (by rw[h.on];simp),if_neg (by rw[this];simp),h.now];exact congrArg (fun x=>(x,(0:Int))) (h.is k h0)
section
variable {w:World} {B p:Nat} {d:DD}
end
end Go.Proofs.YtdpbdkacngaemaaGreatDoor.jr
namespace Go.Proofs.YtdpbdkacngaemaaGreatDoor.jr
open _root_.Go.Proofs.Tryz Go Go.RowKit dk wi
theorem RJ.n{tgt:Int→Bt}{d:DD}(h:RJ 200 tgt d):d.n=200:=h.rb.1
section
variable {w:World} {G:Nat→Prop} {p:Nat} {d:DD}
end
theorem mj.block{w:World}{B:Nat}{A:Option Addr}{n c:Nat}{l:List Wr}(h:mj w B (.slice A n c) l):∀b o,A=some ⟨b,o,none⟩→B≤b∧b<w.heap.size:=by
 intro b o hA;subst hA;rcases h.2 with⟨hv,_⟩|⟨g,cap,cur,hv,hg,hh,_⟩
 ·cases hv
 ·simp only[Value.slice.injEq,Option.some.injEq,Addr.mk.injEq]at hv;obtain⟨⟨rfl,_⟩,_⟩:=hv;exact⟨hg,(Array.getElem?_eq_some_iff.1 hh).1⟩
theorem qbK.below{w w':World}{a:Option Addr}{zs:List q1y}(h:qbK w a zs)(hb:Below w.heap.size w w'):qbK w' a zs:=by
 intro i hi;obtain⟨b,o,h1,h2,h3,h4,h5,h6⟩:=h i hi;refine⟨b,o,h1,Nat.lt_of_lt_of_le h2 hb.size,?_,?_,?_,h6⟩
 ·rw[hb.cell (p:=⟨b,o+i*3,none⟩) h2];exact h3
 ·rw[hb.cell (p:=⟨b,o+i*3+1,none⟩) h2];exact h4
 ·rw[hb.cell (p:=⟨b,o+i*3+2,none⟩) h2];exact h5
end Go.Proofs.YtdpbdkacngaemaaGreatDoor.jr
namespace Go.Proofs.YtdpbdkacngaemaaGreatDoor.jr
open _root_.Go.Proofs.Tryz Go Go.RowKit dk wi
def Rest (d:DD):Prop:=d.n=200∧d.more=[]
theorem JJ.rest{tgt:Int→Bt}{d:DD}(h:JJ 200 tgt d):Rest d:=⟨h.n,h.more⟩
theorem RJ.rest{tgt:Int→Bt}{d:DD}(h:RJ 200 tgt d):Rest d:=⟨h.n,h.more⟩
end Go.Proofs.YtdpbdkacngaemaaGreatDoor.jr
namespace Go.Proofs.YtdpbdkacngaemaaGreatDoor.jr
open _root_.Go.Proofs.Tryz dk wi
def kb0:DD:=DD.new 400 400
def kb1:DD:=(kC kb0).2
end Go.Proofs.YtdpbdkacngaemaaGreatDoor.jr
namespace Go.Proofs.YtdpbdkacngaemaaGreatDoor.jr
open _root_.Go.Proofs.Tryz Go Go.RowKit dk wi
section
variable {most:Nat} {w:World} {B p:Nat} {d:DD}
end
end Go.Proofs.YtdpbdkacngaemaaGreatDoor.jr
namespace Go.Proofs.YtdpbdkacngaemaaGreatDoor.vt.pg
open _root_.Go.Proofs.Tryz Go Go.RowKit Go.Sort ib mt im sp
theorem ry {W:World}{g:Nat}{v0 v1 v2 u0 u1 u2:Value}{t t':Tk}{ty:TypeId}(h:qf W g ty (mC u0 u1 u2 t')):qf (xN W g v0 v1 v2 t) g ty (mC v0 v1 v2 t):=by
 have h9:=((((((((h.qg 0 v0).qg 1 v1).qg 2 (.int .u64 (t.base.1:Int))).qg 3 (.int .u64 (t.base.2:Int))).qg 4 (.int .u64 (t.target.1:Int))).qg 5 (.int .u64 (t.target.2:Int))).qg 6 (.int .i64 t.next)).qg 7 (.int .i64 t.all)).qg 8 v2;simp only[mC,List.setIfInBounds_toArray,List.set_cons_succ,List.set_cons_zero]at h9;exact h9
theorem qs1{W:World}{g:Nat}{v0 v1 v2:Value}{t:Tk}(h:qf W g 96 (mC v0 v1 v2 t)):(loadVar 96 ⟨g,0,none⟩).run prog W=.ok (.agg (mC v0 v1 v2 t)) W :=
 run_loadVar_row W g 96 96 _ (0,0) _ h underlying96 rfl (by kernel_rfl)
theorem qdP{w:World}(A0 A1 A2:Option Addr)(n0 n1 n2 c0 c1 c2:Nat)(t:Tk):Calls prog 54 #[.agg (mC (.slice A0 n0 c0) (.slice A1 n1 c1) (.slice A2 n2 c2) t)] w fun e w'=>e=.returned (.agg (mC (.slice A0 n0 c0) (.slice A1 n1 c1) (.slice A2 n2 c2) t))∧Below w.heap.size w w':=by
 have hb1:=(Below.refl _ w).alloc (Nat.le_refl _) (.cells (mC (.slice A0 n0 c0) (.slice A1 n1 c1) (.slice A2 n2 c2) t) 103);have zt:=qf.new w 103 (mC (.slice A0 n0 c0) (.slice A1 n1 c1) (.slice A2 n2 c2) t);obtain⟨W1,hW1⟩:=QE (w.alloc (.cells (mC (.slice A0 n0 c0) (.slice A1 n1 c1) (.slice A2 n2 c2) t) 103));rw[hW1]at hb1 zt;have hb2:=(Below.refl _ W1).alloc (Nat.le_refl _) (.cells (mt.pg.mZ (.slice none 0 0) (.slice none 0 0)) 96);have hk2:=qf.new W1 96 (mt.pg.mZ (.slice none 0 0) (.slice none 0 0));obtain⟨W2,hW2⟩:=QE (W1.alloc (.cells (mt.pg.mZ (.slice none 0 0) (.slice none 0 0)) 96));rw[hW2]at hb2 hk2;have rz:=zt.below hb2;have m0:=rz.cell 0;have m1:=rz.cell 1;have m2:=rz.cell 2;have m3:=rz.cell 3;have m4:=rz.cell 4;have m5:=rz.cell 5;have m6:=rz.cell 6;have m7:=rz.cell 7;have m8:=rz.cell 8;have hml:=rz.lt;have a0:=hk2.cell 0;have a1:=hk2.cell 1;have a2:=hk2.cell 2;have a3:=hk2.cell 3;have a4:=hk2.cell 4;have a5:=hk2.cell 5;have a6:=hk2.cell 6;have a7:=hk2.cell 7;have a8:=hk2.cell 8;have f0:=hk2.frozen 0;have f1:=hk2.frozen 1;have f2:=hk2.frozen 2;have f3:=hk2.frozen 3;have f4:=hk2.frozen 4;have f5:=hk2.frozen 5;have f6:=hk2.frozen 6;have f7:=hk2.frozen 7;have f8:=hk2.frozen 8;have lQ:=hk2.lt;simp only[mC,mt.pg.mZ,QA,QB,QC]at m0 m1 m2 m3 m4 m5 m6 m7 m8 a0 a1 a2 a3 a4 a5 a6 a7 a8;have hres:qf W2 W1.heap.size 96 (mC cd cd cd yB):=hk2;have HF:Hid (qf (xN W2 W1.heap.size (.slice A0 n0 c0) (.slice A1 n1 c1) (.slice A2 n2 c2) t) W1.heap.size 96 (mC (.slice A0 n0 c0) (.slice A1 n1 c1) (.slice A2 n2 c2) t)∧Below w.heap.size w (xN W2 W1.heap.size (.slice A0 n0 c0) (.slice A1 n1 c1) (.slice A2 n2 c2) t)) :=
  ⟨ry hres,dK (qa hb1 hb2) (by have:=zt.lt;omega)⟩
 unfold mC at hW1 ⊢;unfold mt.pg.mZ at hW2;clear hb1 zt hb2 hk2 rz hres;go_enter func54,ntmps54;go_upto_region 1 with fail;try rw[hW1]
 try rw[hW2]
 clear hW1 hW2;go_wp2_with fail;show bodyPost _ _ _ _ _ (xN W2 W1.heap.size (.slice A0 n0 c0) (.slice A1 n1 c1) (.slice A2 n2 c2) t);have hf:=HF.out;obtain⟨WE,nd⟩:=QE (xN W2 W1.heap.size (.slice A0 n0 c0) (.slice A1 n1 c1) (.slice A2 n2 c2) t);rw[nd]at hf ⊢;exact bodyPost_ret (v:=.agg (mC (.slice A0 n0 c0) (.slice A1 n1 c1) (.slice A2 n2 c2) t)) (im.zf rfl _ _ _ ⟨W1.heap.size,0,none⟩ _ rfl (qs1 hf.1)) rfl ⟨rfl,hf.2⟩
theorem qoQ{b N:Nat}{m:Mt}(h:jI b N m)(h0:m.tok.target=(0,0)):m.tok=yB:=by
 rcases h.tok with ht|ht
 ·exact ht
 ·exfalso;have e2:=ht.2.1;rw[h0]at e2;unfold mt.above at e2;simp at e2
theorem qdQ{o:Nat→Prop}{w:World}{pd N b:Nat}{d:DD}{t:Tg}{m:Mt}(h:dk.zP 1000 w o pd d)(ij:xY w)(hog:¬ o gN)(hJ:jr.RJ N t d)(hf:d.qy=0)(hR:yb b N t m) :
    Calls prog 11 #[pt pd] w fun e w'=>∃v d' sK iV,e=.returned (.tuple #[pt v,.int .i64 0])∧VP ag w' sK iV v pd d' m false∧jr.JJ N t d'∧d'.qy=0∧ib.qz o w w'∧(∀j,sK j→w.heap.size≤j)∧∀j,iV j→o j∨w.heap.size≤j:=by
 have hdn:d.n=N:=hJ.rb.1;have quf:145<d.n:=by rw[hdn];have:=hR.N0;omega
 have HRC:=QH (jr.sO jr.qo9 h quf ij (by rw[hJ.more];decide) (by decide));have HRA:Hid ((jr.xc d).1=0∧jr.JJ N t (jr.xc d).2∧(jr.xc d).2.qy=0):=by
  rcases jr.qdb hJ (by omega)with⟨h1,h2,h3,_⟩|⟨_,_,h3,_⟩
  ·exact⟨h1,h2,h3 hf⟩
  ·exact absurd hf h3
 obtain⟨RC,hRC⟩:=QE (jr.xc d);rw[hRC]at HRC HRA;obtain⟨r,d1⟩:=RC;have hr0:r=0:=HRA.out.1;subst hr0;have dr:=QH ij;have HOG:=QH hog;have HR:=QH hR;clear h hJ hf hR hRC hdn quf ij hog;go_enter func11,ntmps11;go_wp2_with fail;refine HRC.out.mono ?_;rintro e W1 ⟨rfl,o2,hd1,hb1,hg1⟩;have HD1:=QH hd1;have qO:Hid (ib.qz o w W1):=qbn hb1;have HG1:Hid (∀j,o2 j→o j∨w.heap.size≤j):=hg1;have qk1:xY W1:=wF dr.out qO.out.size (qO.out.block gN (xG dr.out) HOG.out);have q1z:=QH qk1;have hR:=HR.out;have htx:=qgz hd1 qk1 HRA.out.2.1 hR.N0 (u:=zA m) (by have:=hR.ok.size hR.N1;omega) (xW hR.ok hR.N1).2 hR.home;have HTX:=QH htx;clear hd1 hb1 hg1 qk1 htx HRC;go_wp2_with fail;refine HTX.out.mono ?_;rintro e W2 ⟨rfl,hb2⟩;have qA:=QH hb2;have hdc:=qr4 (str (zA m)) W2 (by rw[qN];have:=hR.ok.size hR.N1;omega) m (by rw[zw];exact hR.ok.back hR.N1);have HDC:=QH hdc;obtain⟨S,hS⟩:=QE (str (zA m));rw[hS]at HDC ⊢;clear hb2 hdc hS HTX hR;go_wp2_with fail;refine HDC.out.mono ?_;rintro e W3 ⟨A0,A1,A2,c0,c1,c2,rfl,hT,hb3⟩;have nW:=QH hT.bound;have zv:=QH hb3;have hb4:=(Below.refl _ W3).alloc (Nat.le_refl _) (.cells (mt.pg.mZ (.slice none 0 0) (.slice none 0 0)) 103);have hk4:=qf.new W3 103 (mt.pg.mZ (.slice none 0 0) (.slice none 0 0));obtain⟨W4,ie⟩:=QE (W3.alloc (.cells (mt.pg.mZ (.slice none 0 0) (.slice none 0 0)) 103));rw[ie]at hb4 hk4;have a0:=hk4.cell 0;have a1:=hk4.cell 1;have a2:=hk4.cell 2;have a3:=hk4.cell 3;have a4:=hk4.cell 4;have a5:=hk4.cell 5;have a6:=hk4.cell 6;have a7:=hk4.cell 7;have a8:=hk4.cell 8;have f0:=hk4.frozen 0;have f1:=hk4.frozen 1;have f2:=hk4.frozen 2;have f3:=hk4.frozen 3;have f4:=hk4.frozen 4;have f5:=hk4.frozen 5;have f6:=hk4.frozen 6;have f7:=hk4.frozen 7;have f8:=hk4.frozen 8;have lQ:=hk4.lt;simp only[mt.pg.mZ,QA,QB,QC]at a0 a1 a2 a3 a4 a5 a6 a7 a8;have hres:qf W4 W3.heap.size 103 (mC cd cd cd yB):=hk4;have HF:Hid (qf (xN W4 W3.heap.size (.slice A0 m.live.length c0) (.slice A1 m.qc.length c1) (.slice A2 m.tok.qp.length c2) m.tok) W3.heap.size 103 (mC (.slice A0 m.live.length c0) (.slice A1 m.qc.length c1) (.slice A2 m.tok.qp.length c2) m.tok)∧Below W3.heap.size W3 (xN W4 W3.heap.size (.slice A0 m.live.length c0) (.slice A1 m.qc.length c1) (.slice A2 m.tok.qp.length c2) m.tok)) :=
  ⟨ry hres,dK hb4 (Nat.le_refl _)⟩
 unfold mt.pg.mZ at ie;unfold zF;clear hb3 hT hb4 hk4 hres HDC;go_upto_region 8 with fail;try rw[ie]
 show Code.wp _ _ _ _ (xN W4 W3.heap.size (.slice A0 m.live.length c0) (.slice A1 m.qc.length c1) (.slice A2 m.tok.qp.length c2) m.tok);obtain⟨W5,ic⟩:=QE (xN W4 W3.heap.size (.slice A0 m.live.length c0) (.slice A1 m.qc.length c1) (.slice A2 m.tok.qp.length c2) m.tok);rw[ic]at HF ⊢;clear ie ic a0 a1 a2 a3 a4 a5 a6 a7 a8 f0 f1 f2 f3 f4 f5 f6 f7 f8 lQ;have hblk:=HF.out.1;have b35:=HF.out.2;have qk2:=QH (qa (qa qA.out zv.out) b35);have yo:=QH (nW.out.below b35);have HD5:=QH (HD1.out.below qk2.out);have k0:=hblk.cell 0;have k1:=hblk.cell 1;have k2:=hblk.cell 2;have k3:=hblk.cell 3;have k4:=hblk.cell 4;have k5:=hblk.cell 5;have k6:=hblk.cell 6;have k7:=hblk.cell 7;have k8:=hblk.cell 8;have klt:=hblk.lt;simp only[mC,QA,QB,QC]at k0 k1 k2 k3 k4 k5 k6 k7 k8;have e0:=fun d os=>cell_regrown k0 d os;have e1:=fun d os=>cell_regrown k1 d os;have e2:=fun d os=>cell_regrown k2 d os;have e3:=fun d os=>cell_regrown k3 d os;have e4:=fun d os=>cell_regrown k4 d os;have e5:=fun d os=>cell_regrown k5 d os;have e6:=fun d os=>cell_regrown k6 d os;have e7:=fun d os=>cell_regrown k7 d os;have e8:=fun d os=>cell_regrown k8 d os;have hR:=HR.out;have hlen:m.live.length=b:=hR.ok.len;have hdn:d1.n=N:=HRA.out.2.1.rb.1;have cL:∀b os,Calls prog 43 #[pt pd] (grow (redrawn W5 b) os) fun e w''=>e=.returned (.int .i64 (N:Int))∧∃q:Regrown,w''=grow (redrawn W5 q.d) q.os :=
  fun b os=>Calls.regrown_of ((pJ (HD5.out.below (below_regrown W5 b os))).mono fun e w' hx=>⟨by rw[← hdn];exact hx.1,by rw[← hx.2];exact Below.refl _ _⟩)
 have cC:∀b os,Calls prog 53 #[.agg (zF A0 A1 A2 c0 c1 c2 m),.int .i64 (m.live.length:Int),.int .i64 (N:Int)] (grow (redrawn W5 b) os) fun e w''=>e=.returned (.int .i64 0)∧∃q:Regrown,w''=grow (redrawn W5 q.d) q.os :=
  fun b os=>by
   have hc:=mt.pg.aO (.agg (zF A0 A1 A2 c0 c1 c2 m)) m (m.live.length:Int) (N:Int) (grow (redrawn W5 b) os) ⟨A0,A1,A2,c0,c1,c2,rfl,(yo.out.below (below_regrown W5 b os)).mt⟩ (nv hR.ok) (by unfold qD;have:=hR.ok.b8;omega) (by unfold qD;have:=hR.N1;omega);have h0:xo m (m.live.length:Int) (N:Int)=0:=by rw[hlen];exact hR.ok.check
   rw[h0]at hc;exact Calls.regrown_of hc
 have q10:=QH hblk;unfold zF at cC;clear hblk b35 hlen hdn hR;refine wp_region_quiet_below vS (by kernel_rfl) ?_;repeat (any_goals (first|go_big_quiet_step (first|exact cL _ _|exact cC _ _)|quiet_step (first|exact cL _ _|exact cC _ _)))
 refine wpQuiet_nil ?_;intro _ hw';obtain⟨⟨dq,osq⟩,hw''⟩:=hw';subst hw'';have vg:=below_regrown W5 dq osq;have dL:=QH vg;have hblk:=q10.out.below vg;clear vg e0 e1 e2 e3 e4 e5 e6 e7 e8 k0 k1 k2 k3 k4 k5 k6 k7 k8 klt cL cC q10;generalize grow (redrawn W5 dq) osq=W6 at *;have k0:=hblk.cell 0;have k1:=hblk.cell 1;have k2:=hblk.cell 2;have k3:=hblk.cell 3;have k4:=hblk.cell 4;have k5:=hblk.cell 5;have k6:=hblk.cell 6;have k7:=hblk.cell 7;have k8:=hblk.cell 8;have klt:=hblk.lt;simp only[mC,QA,QB,QC]at k0 k1 k2 k3 k4 k5 k6 k7 k8;have HTO:=QH (qdP (w:=W6) A0 A1 A2 m.live.length m.qc.length m.tok.qp.length c0 c1 c2 m.tok);unfold mC at HTO;clear hblk;go_wp2_with fail;refine HTO.out.mono ?_;rintro e W7 ⟨rfl,hb7⟩;have HB7:=QH (qa dL.out hb7);have hb8:=(Below.refl _ W7).alloc (Nat.le_refl _) (.cells (vC A0 A1 A2 c0 c1 c2 m pd false) 115);have hk8:=qf.new W7 115 (vC A0 A1 A2 c0 c1 c2 m pd false);obtain⟨W8,rR⟩:=QE (W7.alloc (.cells (vC A0 A1 A2 c0 c1 c2 m pd false) 115));rw[rR]at hb8 hk8;have HB8:=QH (qa HB7.out hb8);have qk3:=QH (qa qk2.out HB8.out);have HK8:=QH hk8;have tO:Hid (W1.heap.size≤W2.heap.size∧W2.heap.size≤W3.heap.size∧W3.heap.size≤W5.heap.size∧W5.heap.size≤W7.heap.size∧W7.heap.size<W8.heap.size):=⟨qA.out.size,zv.out.size,HF.out.2.size,HB7.out.size,hk8.lt⟩;unfold vC at rR;clear hb7 hb8 hk8 HTO k0 k1 k2 k3 k4 k5 k6 k7 k8 klt;go_wp2_with fail;try rw[rR]
 clear rR;go_ret2;have hR:=HR.out;have hsz:=tO.out;have h1s:=qO.out.size;have xu:∀j,o2 j→j<W1.heap.size:=fun j hj=>iW HD1.out j hj;have hgn:gN<w.heap.size:=xG dr.out;have hg2:¬ o2 gN:=fun h=>by
  rcases HG1.out gN h with h|h
  ·exact HOG.out h
  ·omega
 refine⟨W7.heap.size,d1,fun j=>w.heap.size≤j∧j<W8.heap.size∧¬ o2 j,o2,rfl,⟨⟨A0,A1,A2,c0,c1,c2,HK8.out,?_,nv hR.ok,yN q1z.out qk3.out (xG q1z.out),⟨by omega,by omega,fun h=>by have:=xu _ h;omega⟩,fun j hj=>hj.2.1,by omega,qoQ hR.ok⟩,HD1.out.below qk3.out,fun j hj=>?_⟩,HRA.out.2.1,HRA.out.2.2,?_,fun j hj=>hj.1,fun j hj=>HG1.out j hj⟩
 ·refine(nW.out.below HF.out.2).mono (G':=fun j=>(w.heap.size≤j∧j<W8.heap.size∧¬ o2 j)∧j≠W7.heap.size) (fun j hj=>⟨⟨by omega,by omega,fun h=>by have:=xu _ h;omega⟩,by omega⟩) |>.below HB8.out
 ·rcases hj with hj|hj
  ·exact hj.2.2
  ·rw[hj];exact hg2
 ·exact qO.out.trans (S':=fun _=>False) (ib.qz.of_below qk3.out) (fun _ h=>h.elim)
end Go.Proofs.YtdpbdkacngaemaaGreatDoor.vt.pg
namespace Go.Proofs.YtdpbdkacngaemaaGreatDoor.dk
open _root_.Go.Proofs.Tryz Go Go.RowKit
theorem qbL{P:Program}{ρ:Operand→Value}{o:Oper}{w w':World}{vx vy v':Value}{t:TypeId}(x y:Operand)(ho:o.op=.call { callee:=.builtin .append,args:=#[x,y],argTypes:=#[t,t] })(ht:o.type=t)(hx:ρ x=vx)(hy:ρ y=vy)
    (hrun:(Builtin.append_ #[t,t] t #[vx,vy]).run P w=.ok v' w'):(execOp ρ o).run P w=.ok (.value v') w':=by
 simp[execOp,ho,resolve,invoke,builtin,hx,hy,ht,hrun,Result.andThen]
theorem xg.twin{w w':World}{m n:Nat}{s:qH}(h:xg w m s):∃es clock,w.heap[m]?=some (.map es clock)∧∀(w':World) (n:Nat),w'.heap[n]?=some (.map es clock)→xg w' n s:=by
 obtain⟨D,⟨es,clock,h1,h2⟩,h3⟩:=h;exact⟨es,clock,h1,fun w' n hn=>⟨D,⟨es,clock,hn,h2⟩,h3⟩⟩
theorem qgO(b:Nat)(es:Array MapEntry)(clock:Nat)(w:World)(hb:w.heap[b]?=some (.map es clock)) :
    Calls prog 104 #[.map (some b)] w fun e w'=>e=.returned (.map (some w.heap.size))∧w'=w.alloc (.map es clock):=by
 have hq:=fun w=>run_eql_map_nil_sl (P:=prog) w 85 _ _ (some b) underlying85;go_enter func104,ntmps104;go_wp2;rw[run_callFunc_extern func184 (by kernel_rfl) (by kernel_rfl) (by kernel_rfl) (e:=Extern.MapsClone.clone) (by kernel_rfl),run_maps_clone_sl w 85 hb];simp only[Result.andThen];rw[Oper.upon_value];go_wp2;rw[run_typeAssert_map_sl _ 85 _ _ _ _ underlying85];simp only[Result.andThen];rw[Oper.upon_value];go_wp2;go_ret;exact⟨rfl,rfl⟩
theorem qdR{ρ:Operand→Value}{o:Oper}{w:World}(ho:o.op=.buildSlice 86 0 #[]) :
    (execOp ρ o).run prog w=.ok (.value (.slice (some ⟨w.heap.size,0,none⟩) 0 0)) (w.alloc (.cells #[] 148)):=by
 unfold execOp;rw[ho];go_simp
theorem qih(w:World)(a:Option Addr)(n c:Nat):(binOp .eql 86 (.slice a n c) (.slice none 0 0)).run prog w=.ok (.bool a.isNone) w:=by
 simp only[binOp];simp[run_equal_slice_nil _ _ _ _ _ _ underlying86]
def qgP (n:Nat)(xs:List Value)(w:World)(e:Ending)(w':World):Prop:=∃v',e=.returned v'∧w'.ownsRow w.heap.size 148 66 v' n xs∧Below w.heap.size w w'
theorem qgQ(w:World)(v:Value)(n:Nat)(xs:List Value)(h:w.ownsRow 0 148 66 v n xs)(h1:∀u∈xs,u.oneCell'=true)(hn:n≤100000) :
    Calls prog 105 #[v] w (qgP n xs w):=by
 have hown:=h;rcases h.2 with⟨rfl,h0⟩|⟨g,cap,cur,rfl,hg,hh,hc,hm,hcs,xC⟩
 ·subst h0;have hx:xs=[]:=by have:=h.1;simpa using this
  subst hx;have hq:=fun w=>qih w none 0 0;clear hown h;go_enter func105,ntmps105;go_wp2_with fail;go_ret;exact⟨_,rfl,World.ownsRow_nil _ _ _ _,Below.refl _ _⟩
 ·obtain⟨i0,hi,hz0,hz1,hz2⟩:=info_parts qf9;have hcell:∀(j:Nat) (u:Value),xs[j]?=some u→(w.alloc (.cells #[] 148)).cell? ((⟨g,0,none⟩:Addr).add j)=some u:=by
   intro j u hu;rw[addr_add,Nat.zero_add];have hj:j<xs.length:=(List.getElem?_eq_some_iff.1 hu).1;have:=World.ownsRow.cellAt hown j (by rw[← hown.1];exact hj);rw[World.cell?_of_block (a:=⟨g,j,none⟩) (Below.heap_alloc w _ g (Array.getElem?_eq_some_iff.1 hh).1),this];exact hu
  obtain⟨v',w',hrun,h2,h3,_⟩:=run_append_own (P:=prog) (w.alloc (.cells #[] 148)) w.heap.size 86 86 148 i0 _ 66 80 underlying86 hi hz0 hz1 hz2 (by simp[Value.cells,yJ,ze]) (by decide) (.slice (some ⟨w.heap.size,0,none⟩) 0 0) 0 [] (World.ownsRow_made w #[] 0 (Nat.le_refl _) (by decide) rfl) ⟨g,0,none⟩ n cap xs h.1 hcell h1 (by unfold maxLen;omega) (by omega) (by simp);rw[Nat.zero_add,List.nil_append]at h2;have HR:=QH hrun;have H2:=QH h2;have H3:=QH h3;clear hown h hcell h1 hrun h2 h3 hi hz0 hz1 hz2 hcs xC hh;have hq:=fun w=>qih w (some ⟨g,0,none⟩) n cap;go_enter func105,ntmps105;go_wp2_with (first|(refine qi rfl (qdR rfl) ?_)|(refine qi rfl (qbL (.tmp 5) (.tmp 6) rfl rfl rfl rfl HR.out) ?_));go_ret;refine⟨_,rfl,H2.out,?_⟩;have hb:Below w.heap.size w (w.alloc (.cells #[] 148)):=(Below.refl _ _).alloc (Nat.le_refl _) _;exact hb.grown H3.out hb.size (fun k hk=>by simp[Value.ownBlock]at hk;omega)
theorem qw5:(prog.info? 88).map (·.size)=some 6:=by kernel_rfl
def qgR (most:Nat)(d:DD)(w:World)(e:Ending)(w':World):Prop :=
 ∃q own,e=.returned (.pointer (some ⟨q,0,none⟩))∧zP most w' own q d∧Below w.heap.size w w'∧∀k,own k→w.heap.size≤k
section
variable {w:World} {own:Nat→Prop} {p:Nat} {d:DD}
theorem qoS{most:Nat}(h:zP most w own p d)(jo:most≤100000) :
    Calls prog 46 #[.pointer (some ⟨p,0,none⟩)] w (qgR most d w):=by
 obtain⟨h0,m,v,h1⟩:=h;have H0:=QH h0;have H1:=QH h1;have hml:d.more.length≤100000:=Nat.le_trans h0.qcJ jo;have HML:=QH hml;have HON:Hid (∀u∈wj (iI d.base d.more),u.oneCell'=true):=by
  intro u hu;simp only[wj,List.mem_flatMap]at hu;obtain⟨x,_,hu⟩:=hu;exact dN x u hu
 obtain⟨c0,c1,c2,c3,c4,c5⟩:=kq h1.1;obtain⟨V,cv,hA⟩:=xQ h1.2.2.1;have qdS:=h1.1.lt;obtain⟨es,clock,hm,hmk⟩:=h1.2.1.twin (w':=w) (n:=0);have HM:=QH hm;have HMK:=QH hmk;subst hA;clear h0 h1 jo hml hm hmk;go_enter func46,ntmps46;go_wp2_with (refine wpList_skip rfl (zJ w 88 _ #[.int .i64 (d.n:Int),.int .i64 d.room,.map (some m),.slice V d.more.length cv,.bool d.on,.int .i64 d.qy] (.tmp 3) (.tmp 8) rfl rfl rfl (by rw[qw5];rfl) rfl (by rfl)) ?_);have HP1:Hid (qf (w.alloc (.cells #[.int .i64 (d.n:Int),.int .i64 d.room,.map (some m),.slice V d.more.length cv,.bool d.on,.int .i64 d.qy] 88)) w.heap.size 88 #[.int .i64 (d.n:Int),.int .i64 d.room,.map (some m),.slice V d.more.length cv,.bool d.on,.int .i64 d.qy]):=qf.new _ _ _;have qO:Hid (Below w.heap.size w (w.alloc (.cells #[.int .i64 (d.n:Int),.int .i64 d.room,.map (some m),.slice V d.more.length cv,.bool d.on,.int .i64 d.qy] 88))):=(Below.refl _ _).alloc (Nat.le_refl _) _;generalize w.alloc (.cells #[.int .i64 (d.n:Int),.int .i64 d.room,.map (some m),.slice V d.more.length cv,.bool d.on,.int .i64 d.qy] 88)=X1 at *;clear c0 c1 c2 c3 c4 c5;obtain⟨q,hq⟩:∃q,q=w.heap.size:=⟨_,rfl⟩;rw[← hq]at HP1 ⊢;have HQ:=QH hq;clear hq;refine(qgO m es clock X1 ((qO.out.block m (Array.getElem?_eq_some_iff.1 HM.out).1).trans HM.out)).mono ?_;rintro e W2 ⟨rfl,rfl⟩;have sB:Hid (qf (X1.alloc (.map es clock)) q 88 #[.int .i64 (d.n:Int),.int .i64 d.room,.map (some m),.slice V d.more.length cv,.bool d.on,.int .i64 d.qy]):=HP1.out.of_block (Below.heap_alloc _ _ _ HP1.out.lt);have qA:Hid (Below w.heap.size w (X1.alloc (.map es clock))):=qO.out.alloc qO.out.size _;have nc:Hid (xg (X1.alloc (.map es clock)) X1.heap.size d.now):=HMK.out _ _ (heap_alloc_new _ _);have HQM:Hid (q<X1.heap.size):=HP1.out.lt;obtain⟨m2,hm2⟩:∃x,x=X1.heap.size:=⟨_,rfl⟩;rw[← hm2]at nc HQM ⊢;have zcK:Hid (m2<(X1.alloc (.map es clock)).heap.size):=nc.out.lt;clear hm2;generalize X1.alloc (.map es clock)=X2 at *;obtain⟨q0,q1,q2,q3,q4,q5⟩:=kq sB.out;have fq:=sB.out.frozen 2;have ma:=sB.out.lt;obtain⟨s0,s1,s2,s3,s4,s5⟩:=kq (H1.out.keep qA.out.size (fun k hk=>qA.out.block k (H1.out.2.2.2.2.2.2 k hk))).1;have hpl:p<X2.heap.size:=Nat.lt_of_lt_of_le qdS qA.out.size;have hpq:p<q:=by rw[HQ.out];exact qdS
 go_wp2_with fail;have HP3:Hid (qf (X2.setCell ⟨q,2,none⟩ (.map (some m2))) q 88 #[.int .i64 (d.n:Int),.int .i64 d.room,.map (some m2),.slice V d.more.length cv,.bool d.on,.int .i64 d.qy]):=sB.out.qg 2 _;have zv:Hid (Below w.heap.size w (X2.setCell ⟨q,2,none⟩ (.map (some m2)))):=qA.out.setCell (by rw[HQ.out];exact Nat.le_refl _) _;have HM3:Hid (xg (X2.setCell ⟨q,2,none⟩ (.map (some m2))) m2 d.now):=nc.out.of_block (xA _ _ _ _ _ (Nat.ne_of_gt HQM.out));generalize X2.setCell ⟨q,2,none⟩ (.map (some m2))=X3 at *;clear q0 q1 q2 q3 q4 q5 fq ma s0 s1 s2 s3 s4 s5 hpl;have qug:X3.ownsRow 0 148 66 (.slice V d.more.length cv) d.more.length (wj (iI d.base d.more)):=(H1.out.keep zv.out.size (fun k hk=>zv.out.block k (H1.out.2.2.2.2.2.2 k hk))).2.2.1;refine(qgQ X3 _ _ _ qug HON.out HML.out).mono ?_;rintro e W4 ⟨v4,rfl,ho4,hb4⟩;obtain⟨A4,c4,rfl⟩:=xQ ho4;have HO4:=QH ho4;have zx:=QH hb4;clear qug ho4 hb4;have ml:Hid (qf W4 q 88 #[.int .i64 (d.n:Int),.int .i64 d.room,.map (some m2),.slice V d.more.length cv,.bool d.on,.int .i64 d.qy]):=HP3.out.of_block (zx.out.block q HP3.out.lt);obtain⟨q0,q1,q2,q3,q4,q5⟩:=kq ml.out;have fq:=ml.out.frozen 3;have ma:=ml.out.lt;go_wp2_with fail;go_ret;have hq3:=HP3.out.lt;have hm3:=HM3.out.lt;have hx3:=zv.out.size;have qm:=HQM.out;have qq:=HQ.out;have h4:=zx.out.size;refine⟨q,fun k=>w.heap.size≤k∧k<W4.heap.size,rfl,⟨H0.out,m2,.slice A4 d.more.length c4,?_⟩,?_,fun k hk=>hk.1⟩
 ·refine⟨ml.out.qg 3 _,(HM3.out.of_block (zx.out.block m2 hm3)).of_block (xA _ _ _ _ _ (Nat.ne_of_gt qm)),?_,⟨by omega,by omega⟩,⟨by omega,by omega⟩,fun j hj=>?_,fun k hk=>by rw[size_set];exact hk.2⟩
  ·have h5:(W4.setCell ⟨q,3,none⟩ (.slice A4 d.more.length c4)).ownsRow X3.heap.size 148 66 (.slice A4 d.more.length c4) d.more.length (wj (iI d.base d.more)):=ym HO4.out (fun j hj=>xA _ _ _ _ _ (by have h:=(HO4.out.lt j hj).1;omega));obtain⟨h1,h2⟩:=h5;refine⟨h1,?_⟩;rcases h2 with h2|⟨g,cap,cur,e1,_,e3⟩
   ·exact .inl h2
   ·exact .inr ⟨g,cap,cur,e1,Nat.zero_le _,e3⟩
  ·have h:=HO4.out.lt j hj;exact⟨Nat.le_trans hx3 h.1,h.2⟩
 ·exact(zv.out.trans (zx.out.mono zv.out.size)).setCell (by rw[qq];exact Nat.le_refl _) _
end
end Go.Proofs.YtdpbdkacngaemaaGreatDoor.dk
namespace Go.Proofs.YtdpbdkacngaemaaGreatDoor.vt.pg
open _root_.Go.Proofs.Tryz Go Go.RowKit Go.Sort ib mt im sp
theorem qdT{b N:Nat}(h1:1≤b)(h8:b≤8):jI b N (m0 b):=by
 refine⟨h1,h8,⟨by simp[m0],fun z hz=>.inl (by simp[m0]at hz;exact hz.2),fun i j _ hj _=>?_⟩,by simp[m0],fun s hs=>by simp[m0]at hs,trivial,.inl rfl,⟨fun s hs=>by simp[m0]at hs,by simp[m0,yB,xB],by simp[m0,yB,xB]⟩⟩;have hl:(m0 b).live=List.replicate b 0:=rfl;unfold pl;rw[hl];simp[List.getD,List.getElem?_replicate];split <;> rfl
theorem ay:∀(ss:List Bt) (o:Nat),((jr.zn o ss).map (·.1)).Nodup
 | [],o=>by simp[jr.zn]
 | s::r,o=>by
  unfold jr.zn;rw[List.map_cons,List.nodup_cons];refine⟨fun h=>?_,ay r (o+1)⟩;obtain⟨x,hx,e⟩:=List.mem_map.1 h;have:=(mr hx).1;dsimp only at e;omega
def fw (b:Nat):List Wr:=jr.zn 145 (xO (m0 b))
def ft (b:Nat):Tg:=jr.over (fun _=>dk.zz) (fw b)
theorem qbM{b N:Nat}(h1:1≤b)(h8:b≤8)(hN:193≤N)(lV:N≤1024):∀x∈fw b,145≤x.1∧x.1<(N:Int)∧x.2.length=32:=by
 intro x hx;have h48:=(xW (qdT (N:=N) h1 h8) lV).2;obtain⟨i,hi,e1,e2⟩:=jr.jE _ _ _ hx;rw[List.getElem?_eq_getElem hi]at e2;have e3:=Option.some.inj e2;exact⟨by omega,by omega,by rw[← e3];exact qdd _ _ (List.getElem_mem hi)⟩
theorem qw6{b N:Nat}(h1:1≤b)(h8:b≤8)(hN:193≤N)(lV:N≤1024):jr.oH N (fw b)=0:=by
 have h48:=(xW (qdT (N:=N) h1 h8) lV).2;have hl:(fw b).length≤48:=by unfold fw;rw[jr.zh];exact h48
 have hp:jr.vO N (fw b)=true:=by
  unfold jr.vO;have hf:=af (fw b) [] (by simpa[fw]using ay (xO (m0 b)) 145);rw[hf];simp only[List.nil_append,List.length_map,decide_true,Bool.and_true,List.all_eq_true];intro x hx;obtain⟨h1,h2,h3⟩:=qbM h1 h8 hN lV x hx;unfold jr.okW;simp;exact⟨⟨h1,h2⟩,h3⟩
 unfold jr.oH;split
 ·rfl
 ·rw[if_neg (by omega),hp];simp
theorem qw7{b N:Nat}(h1:1≤b)(h8:b≤8)(hN:193≤N)(lV:N≤1024):yb b N (ft b) (m0 b):=by
 refine⟨qdT h1 h8,hN,lV,fun i hi=>?_,oN _ _ (fun k _=>dk.ze) fun x hx=>(qbM h1 h8 hN lV x hx).2.2⟩;have hm:(((145+i:Nat):Int),(xO (m0 b))[i])∈fw b:=by
  have key:∀(ss:List Bt) (o i:Nat) (hi:i<ss.length),(((o+i:Nat):Int),ss[i])∈jr.zn o ss:=by
   intro ss
   induction ss with
   | nil=>intro o i hi;simp at hi
   | cons s r ih =>
    intro o i hi;unfold jr.zn;cases i with
    | zero=>simp
    | succ j =>
     rw[List.getElem_cons_succ,show o+(j+1)=o+1+j by omega];exact List.mem_cons_of_mem _ (ih (o+1) j (by simpa using hi))
  exact key _ 145 i hi
 exact ni _ _ _ hm (ay _ _)
theorem qk4(N:Nat)(room:Int)(hN:145<N)(hr:(N:Int)≤room):(jr.kC (dk.DD.new N room)).1=0∧jr.JJ N (fun _=>dk.zz) (jr.kC (dk.DD.new N room)).2∧(jr.kC (dk.DD.new N room)).2.qy=0:=by
 have hn:(dk.DD.new N room).n=N:=by simp[dk.DD.n,dk.DD.new]
 have hgs:∀s∈jr.qF [[((0:Int),jr.kQ 0 0)]],jr.lU (dk.DD.new N room).n s:=by
  rw[hn];refine jr.wY fun l hl x hx=>?_;obtain rfl:l=[(0,jr.kQ 0 0)]:=by simpa using hl
  obtain rfl:x=(0,jr.kQ 0 0):=by simpa using hx
  exact⟨by simp,by simp;omega,(jr.uL (by decide) (by decide)).1⟩
 have e:jr.kC (dk.DD.new N room)=(0,jr.mk (dk.DD.new N room) (dk.qY (List.replicate N none) [(0,jr.kQ 0 0)],[]) true 0):=by
  unfold jr.kC;rw[if_neg (by simp[dk.DD.new]),if_neg (by rw[hn];omega),jr.fj _ (dk.DD.new N room) rfl (Int.le_refl _) (by rw[hn];exact hr) hgs (.inl rfl)];have:((dk.DD.new N room).base,(dk.DD.new N room).more)=(List.replicate N none,[]):=rfl;rw[this,jr.aR];rfl
 rw[e];have hk:∀k,145≤k→jr.rd (dk.qY (List.replicate N none) [(0,jr.kQ 0 0)]) k=dk.zz:=fun k hk=>by
  rw[jr.jD _ _ _ (fun x hx=>by
   obtain rfl:x=(0,jr.kQ 0 0):=by simpa using hx
   dsimp only;omega)]
  unfold jr.rd;rw[jr.qk0];rfl
 refine⟨rfl,⟨⟨rfl,rfl,hr,by show(dk.qY _ _).length=N;rw[dk.xf];simp,dk.dM (fun v hv=>by simp at hv) (fun x hx=>?_),0,0,[],?_,.inl ⟨rfl,rfl⟩,?_⟩,hk⟩,rfl⟩
 ·obtain rfl:x=(0,jr.kQ 0 0):=by simpa using hx
  exact(jr.uL (by decide) (by decide)).1
 ·show jr.br (jr.rd (dk.qY (List.replicate N none) [(0,jr.kQ 0 0)]) 0)=_;have:jr.rd (dk.qY (List.replicate N none) [(0,jr.kQ 0 0)]) 0=jr.kQ 0 0:=by
   unfold jr.rd dk.qY;simp only[List.foldl_cons,List.foldl_nil,dk.put];have:=dk.zG (List.replicate N none) 0 (some (jr.kQ 0 0)) (by simp;omega);rw[show((0:Int))=((0:Nat):Int)from rfl,this];rfl
  rw[this];exact(jr.uL (by decide) (by decide)).2.1
 ·exact hk
theorem lp {w w':World}{A:Option Addr}{l:List Wr}(h:jr.uQ w A l)(hs:w.heap.size≤w'.heap.size)(hb:∀b o,A=some ⟨b,o,none⟩→b<w.heap.size→w'.heap[b]?=w.heap[b]?):jr.uQ w' A l:=by
 intro i hi;obtain⟨b,o,h1,h2,h3,h4,h5⟩:=h i hi;have hk:=hb b o h1 h2;exact⟨b,o,h1,Nat.lt_of_lt_of_le h2 hs,(World.cell?_of_block (w:=w) (a:=⟨b,o+i*2,none⟩) hk).trans h3,(World.cell?_of_block (w:=w) (a:=⟨b,o+i*2+1,none⟩) hk).trans h4,h5⟩
theorem uf {o:Nat→Prop}{w:World}{p N b:Nat}{room:Int}(h:dk.zP 1000 w o p (dk.DD.new N room))(ij:xY w)(hog:¬ o gN)(h1:1≤b)(h8:b≤8)(hN:193≤N)(lV:N≤1024)(hr:(N:Int)≤room){A:Option Addr}{c:Nat}(hA:jr.uQ w A (fw b))(hAo:∀b o',A=some ⟨b,o',none⟩→¬ o b) :
    Calls prog 45 #[pt p,.slice A (fw b).length c] w fun e w'=>e=.returned (.int .i64 0)∧∃d' o',dk.zP 1000 w' o' p d'∧jr.JJ N (ft b) d'∧d'.qy=0∧ib.qz o w w'∧∀j,o' j→o j∨w.heap.size≤j:=by
 have HF:=QH (jr.qgy jr.qie h (by simp[dk.DD.new]) (by decide));have HNR:=QH (qk4 N room (by omega) hr);obtain⟨D0,hD0⟩:=QE (jr.kC (dk.DD.new N room));rw[hD0]at HF HNR;obtain⟨r0,d0⟩:=D0;have hr0:r0=0:=HNR.out.1;subst hr0;have dr:=QH ij;have HOG:=QH hog;have HA:=QH hA;have HAO:=QH hAo;have q12:=QH (qw6 h1 h8 hN lV);have vY:Hid ((fw b).length≤48):=by unfold Hid fw;rw[jr.zh];exact(xW (qdT (N:=N) h1 h8) lV).2
 have HN:=QH (And.intro hN lV);have HFT:Hid (ft b=jr.over (fun _=>dk.zz) (fw b)):=rfl;obtain⟨l,hl⟩:=QE (fw b);rw[hl]at HA q12 vY HFT ⊢;clear h ij hog hA hAo h1 h8 hN lV hr hD0 hl;obtain⟨n,hn⟩:=QE l.length;have sA:=QH hn;rw[hn];clear hn;go_enter func45,ntmps45;go_wp2_with fail;refine HF.out.mono ?_;rintro e W1 ⟨rfl,o1,hd1,hb1,hg1⟩;have qO:Hid (ib.qz o w W1):=qbn hb1;have HG1:Hid (∀j,o1 j→o j∨w.heap.size≤j):=hg1;have q13:d0.n=N:=HNR.out.2.1.rb.1;have n4:=lp HA.out qO.out.size (fun b o' e hb=>qO.out.block b hb (HAO.out b o' e));have qk1:xY W1:=wF dr.out qO.out.size (qO.out.block gN (xG dr.out) HOG.out);have hcm:=jr.fP jr.qie jr.qo9 hd1 (by rw[q13];have:=HN.out;omega) A c l n4 (by have:=vY.out;omega) qk1 (by rw[HNR.out.2.1.more];decide) (by decide);have HCA:Hid ((jr.zY d0 l).1=0∧jr.JJ N (ft b) (jr.zY d0 l).2∧(jr.zY d0 l).2.qy=0):=by
  rcases jr.oI (N:=N) (tgt:=fun _=>dk.zz) (l:=l) (d:=d0) (by have:=HN.out;omega) HN.out.2 HNR.out.2.1 (by rw[HNR.out.2.2];exact Int.le_refl _) q12.out with⟨g1,g2,g3,_⟩|⟨_,_,g3,_⟩
  ·exact⟨g1,by rw[HFT.out];exact g2,g3 HNR.out.2.2⟩
  ·exact absurd HNR.out.2.2 g3
 obtain⟨RC,hRC⟩:=QE (jr.zY d0 l);rw[hRC]at hcm HCA;obtain⟨r1,d1⟩:=RC;have hr1:r1=0:=HCA.out.1;subst hr1;rw[sA.out]at hcm;have HCM:=QH hcm;clear hd1 hb1 hg1 q13 n4 qk1 hcm hRC HF;have hce:((0:Int) != 0)=false:=rfl;go_wp2_with fail;refine HCM.out.mono ?_;rintro e W2 ⟨rfl,o2,hd2,hb2,hg2⟩;have HD2:=QH hd2;have qA:Hid (ib.qz o1 W1 W2):=qbn hb2;have HG2:Hid (∀j,o2 j→o1 j∨W1.heap.size≤j):=hg2;clear hd2 hb2 hg2 HCM;go_wp2_with fail;go_ret;have hs:=qO.out.size;refine⟨rfl,d1,o2,HD2.out,HCA.out.2.1,HCA.out.2.2,qO.out.trans qA.out (fun j hj=>HG1.out j hj),fun j hj=>?_⟩;rcases HG2.out j hj with hj|hj
 ·exact HG1.out j hj
 ·exact .inr (by omega)
theorem qs2{w:World}{B:Nat}{v:Value}{l:List Wr}(h:jr.mj w B v l):∀a n c,v=.slice a n c→∀b o s,a=some ⟨b,o,s⟩→B≤b:=by
 intro a n c hv b o s ha;rcases h.2 with⟨rfl,h0⟩|⟨g,cap,cur,rfl,hg,hh,hcc,hm,hcs,xC⟩
 ·cases hv;cases ha
 ·cases hv;cases ha;exact hg
theorem sR {o:Nat→Prop}{w:World}{pd:Nat}(b N:Nat)(room:Int)(h:dk.zP 1000 w o pd (dk.DD.new N room))(ij:xY w)(hog:¬ o gN)(h1:1≤b)(h8:b≤8)(hN:193≤N)(lV:N≤1024)(hr:(N:Int)≤room) :
    Calls prog 9 #[pt pd,.int .i64 (b:Int)] w fun e w'=>e=.returned (.int .i64 0)∧∃t d' o',dk.zP 1000 w' o' pd d'∧jr.JJ N t d'∧yb b N t (m0 b)∧d'.qy=0∧ib.qz o w w'∧∀j,o' j→o j∨w.heap.size≤j:=by
 have hdn:(dk.DD.new N room).n=N:=by simp[dk.DD.n,dk.DD.new]
 have HL:=QH (pJ h);rw[hdn]at HL;have vk:=(Below.refl w.heap.size w).alloc (Nat.le_refl _) (.cells (qh (List.replicate b 0)) 3);have hk:=qf.new w 3 (qh (List.replicate b 0));obtain⟨W1,hW1⟩:=QE (w.alloc (.cells (qh (List.replicate b 0)) 3));rw[hW1]at vk hk;have hok:jI b N (m0 b):=qdT h1 h8;have hmt:MtL W1 (some ⟨w.heap.size,0,none⟩) none none b 0 0 (m0 b) :=
  ⟨⟨qf.nums hk (fun z hz=>by simp[m0]at hz;rw[hz.2];unfold qD;omega),by simp[m0],fun h=>by cases h⟩,jL.nil _ _,⟨Nat.le_refl _,fun _=>⟨rfl,rfl⟩⟩,js.none _,qoO.base,qoO.target,qoO.next,qoO.all⟩
 have hwr:=pD hmt (nv hok) (hok.enc lV) (hok.size lV) (yN ij vk (xG ij));have hme:zF (some ⟨w.heap.size,0,none⟩) none none b 0 0 (m0 b) = #[.slice (some ⟨w.heap.size,0,none⟩) b b,.slice none 0 0,.int .u64 0,.int .u64 0,.int .u64 0,.int .u64 0,.int .i64 0,.int .i64 0,.slice none 0 0]:=by simp[zF,m0,yB]
 rw[hme]at hwr;have HWR:=QH hwr;have qO:=QH vk;have HD:=QH h;have dr:=QH ij;have HOG:=QH hog;have q6a:=QH (qw7 h1 h8 hN lV);have HEA:=QH (qbM h1 h8 hN lV);have HP:Hid (0<(fw b).length):=by unfold Hid fw;rw[jr.zh];exact(xW hok lV).1
 have qo5:Hid (∀(o:Nat→Prop) (w:World) (p:Nat),dk.zP 1000 w o p (dk.DD.new N room)→xY w→¬ o gN→∀(A:Option Addr) (c:Nat),jr.uQ w A (fw b)→(∀b o',A=some ⟨b,o',none⟩→¬ o b) →
  Calls prog 45 #[pt p,.slice A (fw b).length c] w fun e w'=>e=.returned (.int .i64 0)∧∃d' o',dk.zP 1000 w' o' p d'∧jr.JJ N (ft b) d'∧d'.qy=0∧ib.qz o w w'∧∀j,o' j→o j∨w.heap.size≤j):=fun o w p hd hc ho A c hA hAo=>uf hd hc ho h1 h8 hN lV hr hA hAo
 have HN:=QH (And.intro hN lV);have g1:¬ (b:Int)<1:=by omega
 have g2:¬ (8:Int)<(b:Int):=by omega
 have g3:¬ (N:Int)<193:=by omega
 have qtU:b≤1000:=by omega
 clear h ij hog vk hk hok hmt hwr hme hr hdn h1 h8 hN lV;go_enter func9,ntmps9;go_wp2_with fail;refine HL.out.mono ?_;rintro e W0 ⟨rfl,rfl⟩;go_wp2_with (at_make;refine qi rfl (cK _ _ b rfl rfl rfl (by omega)) ?_);try rw[hW1]
 clear hW1;go_wp2_with fail;refine HWR.out.mono ?_;rintro e W2 ⟨vl,rfl,hol,hb2⟩;have qw8:jr.mj W2 W1.heap.size vl (fw b):=hol;have hnew:=qs2 qw8;have qA:=QH (qa qO.out hb2);obtain⟨A,ca,rfl,sJ⟩:=qw8.view (fun x hx=>by have:=HEA.out x hx;have:=HN.out;unfold jr.qD;omega);have HWS:=QH sJ;have qcB:Hid (∀b' o',A=some ⟨b',o',none⟩→w.heap.size≤b'∧b'<W2.heap.size):=fun b' o' e=>by
  have g1:=hnew A _ ca rfl b' o' none e;obtain⟨b'',o'',e2,g2,_⟩:=sJ 0 HP.out;rw[e]at e2;injection e2 with e2
  injection e2 with e3 e4
  exact⟨Nat.le_trans qO.out.size g1,by rw[e3];exact g2⟩
 have HCP:=QH (dk.qoS (HD.out.below qA.out) (by decide));have HLEN:Hid (jr.zn 145 (xO (m0 b))=fw b):=rfl;obtain⟨n,hn⟩:=QE ((fw b).length);rw[hn]at qo5;rw[hn];clear hol hb2 sJ qw8 hnew hn HWR;have hce:((0:Int) != 0)=false:=rfl;go_wp2_with fail;refine HCP.out.mono ?_;rintro e W3 ⟨q,ow,rfl,hdq,hb3,hlo⟩;have zv:=QH (qa qA.out hb3);have hw3:=lp HWS.out hb3.size (fun b' o' e hb=>hb3.block b' hb);have q14:=yN dr.out zv.out (xG dr.out);have HLY:=QH (qo5.out ow W3 q hdq q14 (fun h=>by have g1:=hlo _ h;have g2:=xG dr.out;have g3:=qA.out.size;omega) A ca hw3 (fun b' o' e h=>by have g1:=hlo _ h;have g2:=qcB.out b' o' e;omega));have rj:=QH hlo;have HW3:=QH hw3;have tO:=QH hb3.size;clear hdq hb3 hlo hw3 q14 HCP;go_wp2_with fail;refine HLY.out.mono ?_;rintro e W4 ⟨rfl,d4,o4,hd4,hj4,hf4,hb4,hg4⟩;have qs3:Below W2.heap.size W3 W4:=hb4.below (fun j hj=>rj.out j hj) tO.out;have zx:Hid (Below w.heap.size w W4):=zv.out.trans (qs3.mono qA.out.size);have hw4:=lp HW3.out qs3.size (fun b' o' e hb=>qs3.block b' (qcB.out b' o' e).2);have q15:=yN dr.out zx.out (xG dr.out);have q16:=QH (qo5.out o W4 pd (HD.out.below zx.out) q15 HOG.out A ca hw4 (fun b' o' e h=>by have g1:=HD.out.low _ h;have g2:=qcB.out b' o' e;omega));clear hd4 hj4 hf4 hb4 hg4 qs3 hw4 q15 HLY;go_wp2_with fail;refine q16.out.mono ?_;rintro e W5 ⟨rfl,d5,o5,hd5,hj5,hf5,hb5,hg5⟩;have H1:=QH hd5;have H2:=QH hj5;have H3:=QH hf5;have H4:=QH hb5;have H5:=QH hg5;clear hd5 hj5 hf5 hb5 hg5 q16;go_wp2_with fail;go_ret;have hs:=zx.out.size;refine⟨rfl,ft b,d5,o5,H1.out,H2.out,q6a.out,H3.out,(ib.qz.of_below (S:=o) zx.out).trans H4.out (fun _ h=>.inl h),fun j hj=>?_⟩;rcases H5.out j hj with hj|hj
 ·exact .inl hj
 ·exact .inr (by omega)
def q18 (m:Mt)(g:Gd)(l:List Int):Mt:={ m with qc:=m.qc++[⟨g,l,false⟩] }
def EfV (G:Nat→Prop)(v:Value)(w:World)(m m':Mt):Prop:=(∃k uP,v=.func (.func k) #[] uP)∧wH G w v m m'
theorem EfV.below{G:Nat→Prop}{v:Value}{w w':World}{m m':Mt}(h:EfV G v w m m')(hb:Below w.heap.size w w'):EfV G v w' m m':=⟨h.1,h.2.below hb⟩
theorem EfV.of{G:Nat→Prop}{v:Value}{w:World}{m m':Mt}(h:wH G w v m m'):EfV G v w m m':=⟨h.form,h⟩
section
variable {b n:Nat} {last:Gd} {f:Tf} {x:List (Int × Bt)}
theorem qoT(h:f.base≠last):zK b n last f x=2:=by unfold zK;rw[if_pos (.inl h)]
theorem qk5(h:above f.target last=false):zK b n last f x=2:=by unfold zK;rw[if_pos (.inr (.inl h))]
theorem qoU(h:f.next<0):zK b n last f x=2:=by unfold zK;rw[if_pos (.inr (.inr (.inr (.inr (.inl h)))))]
theorem qoV(h:f.all<f.next):zK b n last f x=2:=by unfold zK;rw[if_pos (.inr (.inr (.inr (.inr (.inr (.inl h))))))]
theorem qs4(h:(b:Int)<f.all):zK b n last f x=2:=by unfold zK;rw[if_pos (.inr (.inr (.inr (.inl h))))]
theorem qoW(h:¬ (f.next=0↔f.all=0)):zK b n last f x=2:=by unfold zK;rw[if_pos (.inr (.inr (.inr (.inr (.inr (.inr h))))))]
theorem qs5(h:xw b (-1) x=false):zK b n last f x=2:=by unfold zK;rw[if_pos h];split <;> rfl
theorem qoX(h1:f.base=last)(h2:above f.target last=true)(h3:¬ f.next<0)(h4:¬ f.all<f.next)(h5:¬ (b:Int)<f.all)(h6:f.next=0↔f.all=0)(h7:xw b (-1) x=true):zK b n last f x=if f.next=f.all then(if above f.target last=false then 2 else if 20≤n then 3 else 0)else 0:=by
 unfold zK;have h2':¬ above f.target last=false:=by rw[h2];simp
 rw[if_neg,if_neg (by rw[h7];simp),if_neg h2']
 ·by_cases e:f.next=f.all
  ·rw[if_pos e];by_cases e2:20≤n
   ·rw[if_pos ⟨e,e2⟩,if_pos e2]
   ·rw[if_neg (fun h=>e2 h.2),if_neg e2]
  ·rw[if_neg (fun h=>e h.1),if_neg e]
 ·rintro(h|h|h|h|h|h|h)
  ·exact h h1
  ·exact h2' h
  ·omega
  ·exact h5 h
  ·exact h3 h
  ·exact h4 h
  ·exact h h6
end
theorem qbN{w:World}{A0 A1 A2:Option Addr}{c0 c1 c2:Nat}{m:Mt}(hS:jL w A1 m.qc)(hsz:mtS m)(f:Tf)(A:Option Addr)(n c:Nat)(B:Option Addr)(cx:Nat)(x:List (Int × Bt))(hx:ch.kR w B x)(cZ:x.length≤1000) :
    Calls prog 155 #[.agg (zF A0 A1 A2 c0 c1 c2 m),.agg (uX f A n c),.slice B x.length cx] w (bV (zK m.live.length m.qc.length (qE m) f x) w):=by
 obtain⟨W1,hW1,zt,hb1⟩:=xZ w (zF A0 A1 A2 c0 c1 c2 m);have hb2:=(Below.refl _ W1).alloc (Nat.le_refl _) (.cells (uX f A n c) 82);have hr2:=qf.new W1 82 (uX f A n c);obtain⟨W,hW2⟩:=QE (W1.alloc (.cells (uX f A n c) 82));rw[hW2]at hb2 hr2;have qA:=QH (qa hb1 hb2);have hk2:=zt.below hb2;have jV:=QH hk2;have jM:=QH hr2;have HS:=QH (hS.below qA.out);have HX:=QH (hx.below qA.out);have h20:=hsz.qc;have h8:=hsz.live;have q0:=hk2.cell 0;have q1:=hk2.cell 1;have q2:=hk2.cell 2;have q3:=hk2.cell 3;have q4:=hk2.cell 4;have q5:=hk2.cell 5;have q6:=hk2.cell 6;have q7:=hk2.cell 7;have q8:=hk2.cell 8;have qlt:=hk2.lt;simp only[zF,uX,QA,QB,QC]at q0 q1 q2 q3 q4 q5 q6 q7 q8;have r0:=hr2.cell 0;have r1:=hr2.cell 1;have r2:=hr2.cell 2;have r3:=hr2.cell 3;have r4:=hr2.cell 4;have r5:=hr2.cell 5;have r6:=hr2.cell 6;have rlt:=hr2.lt;simp only[zF,uX,QA,QB,QC]at r0 r1 r2 r3 r4 r5 r6;have e0:=fun d os=>cell_regrown q0 d os;have e1:=fun d os=>cell_regrown q1 d os;have e2:=fun d os=>cell_regrown q2 d os;have e3:=fun d os=>cell_regrown q3 d os;have e4:=fun d os=>cell_regrown q4 d os;have e5:=fun d os=>cell_regrown q5 d os;have e6:=fun d os=>cell_regrown q6 d os;have e7:=fun d os=>cell_regrown q7 d os;have e8:=fun d os=>cell_regrown q8 d os;have p0:=fun d os=>cell_regrown r0 d os;have p1:=fun d os=>cell_regrown r1 d os;have cL:∀b os,Calls prog 227 #[.agg (zF A0 A1 A2 c0 c1 c2 m)] (grow (redrawn W b) os) fun e w''=>e=.returned (gv (qE m))∧∃q:Regrown,w''=grow (redrawn W q.d) q.os :=
  fun b os=>Calls.regrown_of (qag (HS.out.below (below_regrown W b os)) h20)
 have EB:=QH (fun h=>qoT (b:=m.live.length) (n:=m.qc.length) (last:=qE m) (f:=f) (x:=x) h);have EA:=QH (fun h=>qk5 (b:=m.live.length) (n:=m.qc.length) (last:=qE m) (f:=f) (x:=x) h);have EN:=QH (fun h=>qoU (b:=m.live.length) (n:=m.qc.length) (last:=qE m) (f:=f) (x:=x) h);have EO:=QH (fun h=>qoV (b:=m.live.length) (n:=m.qc.length) (last:=qE m) (f:=f) (x:=x) h);have EL:=QH (fun h=>qs4 (b:=m.live.length) (n:=m.qc.length) (last:=qE m) (f:=f) (x:=x) h);have EZ:=QH (fun h=>qoW (b:=m.live.length) (n:=m.qc.length) (last:=qE m) (f:=f) (x:=x) h);have EC:=QH (fun h=>qs5 (b:=m.live.length) (n:=m.qc.length) (last:=qE m) (f:=f) (x:=x) h);have EG:=QH (fun h1 h2 h3 h4 h5 h6 h7=>qoX (b:=m.live.length) (n:=m.qc.length) (last:=qE m) (f:=f) (x:=x) h1 h2 h3 h4 h5 h6 h7);have HCA:Hid (∀W',Calls prog 228 #[gv f.target,gv f.base] W' (uC (above f.target f.base) W')):=fun W'=>pw f.target f.base W';have dr:Hid (∀W',ch.kR W' B x→Calls prog 61 #[.agg (zF A0 A1 A2 c0 c1 c2 m),.slice B x.length cx] W' (uC (xw m.live.length (-1) x) W')):=fun W' h=>lh h8 h cZ;have HCM:Hid (∀W',jL W' A1 m.qc→Calls prog 229 #[.agg (zF A0 A1 A2 c0 c1 c2 m),gv f.target] W' (bV (if above f.target (qE m)=false then 2 else if 20≤m.qc.length then 3 else 0) W')):=fun W' h=>qgF h h20 f.target;obtain⟨Z,hZ⟩:=QE (if above f.target (qE m)=false then(2:Int)else if 20≤m.qc.length then 3 else 0);rw[hZ]at HCM EG;clear hZ;obtain⟨R,hR⟩:=QE (zK m.live.length m.qc.length (qE m) f x);obtain⟨q,hq⟩:=QE (xw m.live.length (-1) x);rw[hR]at EB EA EN EO EL EZ EC EG ⊢;rw[hq]at dr EC EG;clear hR hq;obtain⟨⟨ba,bb⟩,⟨ta,tb⟩,nx,al⟩:=f;obtain⟨L,hL⟩:=QE (qE m);rw[hL]at cL EB EA EG;obtain⟨la,lb⟩:=L;clear hS zt hb1 hb2 hr2 hk2 hL hx;dsimp only[uX,gv]at *;unfold zF at *;go_enter func155,ntmps155;go_upto_region 1 with fail;try rw[hW1]
 try rw[hW2]
 clear hW1 hW2;have qwA:((ba:Int)=la∧(bb:Int)=lb∧(ba,bb)=(la,lb))∨((¬ (ba:Int)=la∨((ba:Int)=la∧¬ (bb:Int)=lb))∧R=2):=by
  by_cases e1:ba=la
  ·by_cases e2:bb=lb
   ·exact .inl ⟨by rw[e1],by rw[e2],by rw[e1,e2]⟩
   ·exact .inr ⟨.inr ⟨by rw[e1],by omega⟩,EB.out (fun h=>e2 (Prod.mk.inj h).2)⟩
  ·exact .inr ⟨.inl (by omega),EB.out (fun h=>e1 (Prod.mk.inj h).1)⟩
 have FIN:Hid (∀dq osq,Below w.heap.size w (grow (redrawn W dq) osq)):=fun dq osq=>qa qA.out (below_regrown W dq osq);rcases qwA with⟨hba,hbb,hbe⟩|⟨hno,hr⟩
 case' inr =>
  have HR:=QH hr;clear hr;rcases hno with hn1|⟨hn1,hn2⟩;all_goals
   refine wp_region_quiet_below vS (by kernel_rfl) ?_;repeat (any_goals (first|go_big_quiet_step (first|exact cL _ _)|quiet_step (first|exact cL _ _)))
   refine wpQuiet_nil ?_;intro _ hw';obtain⟨⟨dq,osq⟩,hw''⟩:=hw';subst hw'';have zv:=QH (FIN.out dq osq);clear cL e0 e1 e2 e3 e4 e5 e6 e7 e8 p0 p1;go_wp2_with fail;go_ret;exact⟨by rw[HR.out];rfl,zv.out⟩
 have bG:=QH hbe;clear hbe;refine wp_region_quiet_below vS (by kernel_rfl) ?_;repeat (any_goals (first|go_big_quiet_step (first|exact cL _ _)|quiet_step (first|exact cL _ _)))
 refine wpQuiet_nil ?_;intro _ hw';obtain⟨⟨dq,osq⟩,hw''⟩:=hw';subst hw'';have hbg:=below_regrown W dq osq;have zv:=QH (FIN.out dq osq);have sF:=QH (jV.out.below hbg);have iC:=QH (jM.out.below hbg);have na:=QH (HS.out.below hbg);have HX3:=QH (HX.out.below hbg);clear hbg cL e0 e1 e2 e3 e4 e5 e6 e7 e8 p0 p1 qlt rlt q0 q1 q2 q3 q4 q5 q6 q7 q8 r0 r1 r2 r3 r4 r5 r6 hba hbb qA jV jM HS HX FIN;generalize grow (redrawn W dq) osq=W3 at *;have hr3:=iC.out;have r0:=hr3.cell 0;have r1:=hr3.cell 1;have r2:=hr3.cell 2;have r3:=hr3.cell 3;have r4:=hr3.cell 4;have r5:=hr3.cell 5;have r6:=hr3.cell 6;have rlt:=hr3.lt;simp only[Nat.zero_add,QA,QB,QC]at r0 r1 r2 r3 r4 r5 r6;clear hr3;go_wp2_with fail;refine(HCA.out _).mono ?_;rintro e W4 ⟨rfl,hb4⟩;have zx:=QH (qa zv.out hb4);have ed:=QH (sF.out.below hb4);have np:=QH (iC.out.below hb4);have nb:=QH (na.out.below hb4);have HX4:=QH (HX3.out.below hb4);clear hb4 HCA zv sF iC na HX3 rlt r0 r1 r2 r3 r4 r5 r6;have hbe:=bG.out;obtain⟨ab,hab⟩:=QE (above (ta,tb) (ba,bb));have HAB:Hid (above (ta,tb) (la,lb)=ab):=by unfold Hid;rw[← hbe];exact hab
 rw[hab];clear hab hbe;have hr4:=np.out;have hk4:=ed.out;have r0:=hr4.cell 0;have r1:=hr4.cell 1;have r2:=hr4.cell 2;have r3:=hr4.cell 3;have r4:=hr4.cell 4;have r5:=hr4.cell 5;have r6:=hr4.cell 6;have rlt:=hr4.lt;simp only[Nat.zero_add,QA,QB,QC]at r0 r1 r2 r3 r4 r5 r6;have q0:=hk4.cell 0;have q1:=hk4.cell 1;have q2:=hk4.cell 2;have q3:=hk4.cell 3;have q4:=hk4.cell 4;have q5:=hk4.cell 5;have q6:=hk4.cell 6;have q7:=hk4.cell 7;have q8:=hk4.cell 8;have qlt:=hk4.lt;simp only[Nat.zero_add,QA,QB,QC]at q0 q1 q2 q3 q4 q5 q6 q7 q8;clear hr4 hk4;cases ab
 case' false =>
  have HR:=QH (EA.out HAB.out);go_wp2_with fail;go_ret;exact⟨by rw[HR.out];rfl,zx.out⟩
 by_cases h3:nx<0
 case' pos =>
  have HR:=QH (EN.out h3);go_wp2_with fail;go_ret;exact⟨by rw[HR.out];rfl,zx.out⟩
 by_cases h4:al<nx
 case' pos =>
  have HR:=QH (EO.out h4);go_wp2_with fail;go_ret;exact⟨by rw[HR.out];rfl,zx.out⟩
 by_cases h5:(m.live.length:Int)<al
 case' pos =>
  have HR:=QH (EL.out h5);go_wp2_with fail;go_ret;exact⟨by rw[HR.out];rfl,zx.out⟩
 obtain⟨z1,hz1⟩:=QE (nx == 0);obtain⟨z2,hz2⟩:=QE (al == 0);have HZ:Hid ((nx=0↔al=0)↔z1=z2):=by
  unfold Hid;rw[← hz1,← hz2,Bool.eq_iff_iff];simp
 have HZ0:Hid (¬ (z1=z2)→R=2):=fun h=>EZ.out (fun e=>h (HZ.out.1 e));have HG:Hid (z1=z2→q=true→R=if nx=al then Z else 0):=fun h h7=>EG.out bG.out HAB.out (by omega) (by omega) (by omega) (HZ.out.2 h) h7;clear HZ;cases z1 <;> cases z2
 case' false.true =>
  have HR:=QH (HZ0.out (by decide));go_wp2_with fail;go_ret;exact⟨by rw[HR.out];rfl,zx.out⟩
 case' true.false =>
  have HR:=QH (HZ0.out (by decide));go_wp2_with fail;go_ret;exact⟨by rw[HR.out];rfl,zx.out⟩
 all_goals
  have HG2:=QH (HG.out rfl);clear HG HZ0;go_wp2_with fail;refine(dr.out _ HX4.out).mono ?_;rintro e W5 ⟨rfl,hb5⟩;have yw:=QH (qa zx.out hb5);have aN:=np.out.below hb5;have hk5:=ed.out.below hb5;have wU:=QH (nb.out.below hb5);clear hb5 r0 r1 r2 r3 r4 r5 r6 rlt q0 q1 q2 q3 q4 q5 q6 q7 q8 qlt;have r0:=aN.cell 0;have r1:=aN.cell 1;have r2:=aN.cell 2;have r3:=aN.cell 3;have r4:=aN.cell 4;have r5:=aN.cell 5;have r6:=aN.cell 6;have rlt:=aN.lt;simp only[Nat.zero_add,QA,QB,QC]at r0 r1 r2 r3 r4 r5 r6;have q0:=hk5.cell 0;have q1:=hk5.cell 1;have q2:=hk5.cell 2;have q3:=hk5.cell 3;have q4:=hk5.cell 4;have q5:=hk5.cell 5;have q6:=hk5.cell 6;have q7:=hk5.cell 7;have q8:=hk5.cell 8;have qlt:=hk5.lt;simp only[Nat.zero_add,QA,QB,QC]at q0 q1 q2 q3 q4 q5 q6 q7 q8;clear aN hk5;cases q
  case' false =>
   have HR:=QH (EC.out rfl);go_wp2_with fail;go_ret;exact⟨by rw[HR.out];rfl,yw.out⟩
  have HG3:=QH (HG2.out rfl);by_cases h6:nx=al
  case' neg =>
   have HR:Hid (R=0):=by unfold Hid;rw[HG3.out,if_neg h6]
   go_wp2_with fail;all_goals go_ret
   all_goals exact⟨by rw[HR.out];rfl,yw.out⟩
  have HR:Hid (R=Z):=by unfold Hid;rw[HG3.out,if_pos h6]
  have hnx:(nx == al)=true:=by rw[h6];simp
  go_wp2_with fail;refine(HCM.out _ wU.out).mono ?_;rintro e W6 ⟨rfl,vg⟩;have dL:=QH (qa yw.out vg);clear vg r0 r1 r2 r3 r4 r5 r6 rlt q0 q1 q2 q3 q4 q5 q6 q7 q8 qlt;go_wp2_with fail;go_ret;exact⟨by rw[HR.out];rfl,dL.out⟩
end Go.Proofs.YtdpbdkacngaemaaGreatDoor.vt.pg
namespace Go.Proofs.YtdpbdkacngaemaaGreatDoor.vt.pg
open _root_.Go.Proofs.Tryz Go Go.RowKit Go.Sort ib mt im sp
theorem qoY{b N:Nat}{m:Mt}{f:Tf}(h:jI b N m)(e2:mt.above f.target (qE m)=true):jO b N (zL m f):=by
 unfold zL;split
 ·rename_i hm;rcases h.tok with ht|ht
  ·exfalso;rw[ht]at hm;have:f.target=(0,0):=hm.2.1.symm;rw[this]at e2;unfold mt.above at e2;simp at e2
  ·exact ht.2.2.2.2.2
 ·exact qdh h
def s1M (m:Mt)(f:Tf)(l:List Int):Mt:=q18 m f.target l
def s2M (m:Mt)(f:Tf)(l:List Int):Mt:={ s1M m f l with live:=l }
def s3M (m:Mt)(f:Tf)(l:List Int):Mt:={ s2M m f l with tok:=yB }
def qoZ (f:Tf)(l:List Int):Tk:=⟨f.base,f.target,f.next,f.all,l⟩
theorem qdV{b N:Nat}{t:Tg}{m:Mt}(h:yb b N t m)(f:Tf)(x:List (Int × Bt)) :
    (zK m.live.length m.qc.length (qE m) f x≠0∧xr N m f x=⟨zK m.live.length m.qc.length (qE m) f x,m,[]⟩) ∨
    (zK m.live.length m.qc.length (qE m) f x=0∧xw m.live.length (-1) x=true∧x.length≤8∧jO b N (zL m f)∧f.next≤f.all ∧
     (((qP N m x).2≠0∧xr N m f x=⟨(qP N m x).2,m,[]⟩) ∨
      ((qP N m x).2=0∧((f.next=f.all∧xr N m f x=⟨0,s3M m f (x9 (zL m f) x (qP N m x).1.1),(qP N m x).1.2⟩) ∨
       (f.next≠f.all∧xr N m f x=⟨0,{ m with tok:=qoZ f (x9 (zL m f) x (qP N m x).1.1) },(qP N m x).1.2⟩))))):=by
 by_cases he:zK m.live.length m.qc.length (qE m) f x=0
 ·right
  obtain⟨e1,e2,e3,e4,e5,e6,e7,e8⟩:=oZ he;have hlen:=h.ok.len;have hb1:=h.ok.b1;have hb8:=h.ok.b8;refine⟨he,e7,?_,qoY h.ok e2,by omega,?_⟩
  ·have:=iT e7 (by omega) (by omega);omega
  ·unfold xr;rw[if_neg (by rw[he];simp)];by_cases h0:(qP N m x).2=0
   ·rw[if_neg (by rw[h0];simp)];refine .inr ⟨h0,?_⟩;by_cases hn:f.next=f.all
    ·rw[if_pos hn];exact .inl ⟨hn,rfl⟩
    ·rw[if_neg hn];exact .inr ⟨hn,rfl⟩
   ·rw[if_pos h0];exact .inl ⟨h0,rfl⟩
 ·left
  unfold xr;rw[if_pos he];exact⟨he,rfl⟩
theorem qpa{b N:Nat}{t:Tg}{m:Mt}(h:yb b N t m)(f:Tf)(hg:xB f.target)(x:List (Int × Bt))(h0:(xr N m f x).code=0):jI b N (xr N m f x).m∧tZ N m (xr N m f x).ws:=by
 rcases cJ h f hg x with⟨h7,_⟩|⟨_,hd⟩
 ·rw[h0]at h7;cases h7
 ·have hs:=hd h0;by_cases hn:f.next=f.all
  ·exact⟨(hs.whole hn).1.ok,(hs.whole hn).1.ws⟩
  ·exact⟨(hs.part hn).1.ok,(hs.part hn).1.ws⟩
theorem OPl.new{w:World}{B:Nat}{v:Value}{l:List Pl}(h:OPl w B v l):∀a n c,v=.slice a n c→∀b o s,a=some ⟨b,o,s⟩→B≤b:=by
 intro a n c hv b o s ha;rcases h.2 with⟨rfl,h0⟩|⟨g,cap,cur,rfl,hg,hh,hcc,hm,hcs,xC⟩
 ·cases hv;cases ha
 ·cases hv;cases ha;exact hg
theorem PlL.set{w:World}{A:Option Addr}{l:List Pl}(h:PlL w A l){g k:Nat}{u:Value}(hg:∀b o s,A=some ⟨b,o,s⟩→b≠g):PlL (w.setCell ⟨g,k,none⟩ u) A l:=by
 intro i hi;obtain⟨b,o,h1,h2,h3,h4,h5⟩:=h i hi;have hn:=hg b o none h1;have hb:(w.setCell ⟨g,k,none⟩ u).heap[b]?=w.heap[b]? :=qw _ _ _ _ _ hn;exact⟨b,o,h1,by simpa[World.setCell]using h2,(World.cell?_of_block (w:=w) (a:=⟨b,o+i*3,none⟩) hb).trans h3,(World.cell?_of_block (w:=w) (a:=⟨b,o+i*3+1,none⟩) hb).trans h4,(World.cell?_of_block (w:=w) (a:=⟨b,o+i*3+2,none⟩) hb).trans h5⟩
def qs6 (G:Nat→Prop)(p tb:Nat)(T F:Array Value)(src qp:List Int)(PV:Value):Nat→Value→World→Prop:=fun i v w=>match i with
 | 3=>v=.agg T
 | 4=>v=.agg F
 | 5=>∃A c,v=.slice A src.length c∧bu G w A src c
 | 6=>v=PV
 | 7=>∃A c,v=.slice A qp.length c∧bu G w A qp c
 | 8=>v=.pointer (some ⟨tb,6,none⟩)
 | _=>v=pt p
theorem qk6(G:Nat→Prop)(p tb:Nat)(T F:Array Value)(src qp:List Int)(PV:Value):∀i v w w',i<9→qs6 G p tb T F src qp PV i v w→Below w.heap.size w w'→qs6 G p tb T F src qp PV i v w':=by
 intro i v w w' hi h hb;rcases i with _|_|_|_|_|_|_|_|_|i;all_goals (first|omega|skip)
 all_goals unfold qs6 at h ⊢
 all_goals try dsimp only at h ⊢
 all_goals first
  | exact h
  | (obtain⟨A,c,h1,h2⟩:=h
     exact⟨A,c,h1,h2.stay (wG.of_below hb)⟩)
def qs7 (G:Nat→Prop)(p tb:Nat)(PV IV:Value)(m:Mt)(f:Tf)(qp:List Int):Nat→Value→World→Prop:=fun i v w=>match i with
 | 1=>v=PV
 | 2=>v=.pointer (some ⟨tb,2,none⟩)
 | 3=>v=.agg #[.int .u64 (f.target.1:Int),.int .u64 (f.target.2:Int)]
 | 4 | 7=>v=.pointer (some ⟨tb,6,none⟩)
 | 5 | 8=>v=IV
 | 6=>EfV G v w m (s1M m f qp)
 | 9=>EfV G v w (s1M m f qp) (s2M m f qp)
 | 10=>v=.agg (rh yB none 0 0)
 | 11=>EfV G v w (s2M m f qp) (s3M m f qp)
 | 12=>∃B f1 f2 f3,v=.slice (some ⟨B,0,none⟩) 3 3∧qf w B 129 #[f1,f2,f3]∧EfV G f1 w m (s1M m f qp)∧EfV G f2 w (s1M m f qp) (s2M m f qp)∧EfV G f3 w (s2M m f qp) (s3M m f qp)
 | _=>v=pt p
theorem qk7(G:Nat→Prop)(p tb:Nat)(PV IV:Value)(m:Mt)(f:Tf)(qp:List Int):∀i v w w',i<13→qs7 G p tb PV IV m f qp i v w→Below w.heap.size w w'→qs7 G p tb PV IV m f qp i v w':=by
 intro i v w w' hi h hb;rcases i with _|_|_|_|_|_|_|_|_|_|_|_|_|i;all_goals (first|omega|skip)
 all_goals unfold qs7 at h ⊢
 all_goals try dsimp only at h ⊢
 all_goals first
  | exact h
  | exact h.below hb
  | (obtain⟨B,f1,f2,f3,h1,h2,h3,h4,h5⟩:=h
     exact⟨B,f1,f2,f3,h1,h2.below hb,h3.below hb,h4.below hb,h5.below hb⟩)
theorem qk8{o1 o2:Nat→Prop}{w:World}{v pd N b:Nat}{d:DD}{m:Mt}{t:Tg}(f:Tf)(A:Option Addr)(c:Nat)(x:List (Int × Bt))(h:VP ag w o1 o2 v pd d m false)(hJ:jr.JJ N t d)(hf:0≤d.qy)(hR:yb b N t m)(hfb:TfB f)(hx:ch.kR w A x)(cZ:x.length≤1000) :
    Calls prog 84 #[pt v,tkV f none 0 0,.slice A x.length c] w (qbl ag o1 o2 v pd (qj3 N t d m (xr N m f x)) w):=by
 have HDO:=QH (qpa hR f hfb.target x);have HFB:=QH hfb;have nQ:=QH h;have hb2:=(Below.refl _ w).alloc (Nat.le_refl _) (.cells (uX f none 0 0) 82);have hr2:=qf.new w 82 (uX f none 0 0);obtain⟨W,hW2⟩:=QE (w.alloc (.cells (uX f none 0 0) 82));rw[hW2]at hb2 hr2;have h2:=qZ h hb2;obtain⟨A0,A1,A2,c0,c1,c2,hA⟩:=h2.is;have HA:=QH hA;have HJ:=QH hJ;have HR:=QH hR;have ll:=QH hf;have qA:=QH hb2;have jM:=QH hr2;have HX2:=QH (hx.below hb2);have dv:=QH (qd4 h2 hJ.on);have tO:=QH hA.sz;have HXL:=QH cZ;obtain⟨klt,k0,k1,k2,k3,k4,k5,k6,k7,k8,k9,ee⟩:=hA.cells;have r0:=hr2.cell 0;have r1:=hr2.cell 1;have r2:=hr2.cell 2;have r3:=hr2.cell 3;have r4:=hr2.cell 4;have r5:=hr2.cell 5;have r6:=hr2.cell 6;have rlt:=hr2.lt;simp only[uX,Nat.zero_add,QA,QB,QC]at r0 r1 r2 r3 r4 r5 r6;have e0:=fun d os=>cell_regrown k0 d os;have e1:=fun d os=>cell_regrown k1 d os;have e2:=fun d os=>cell_regrown k2 d os;have e3:=fun d os=>cell_regrown k3 d os;have e4:=fun d os=>cell_regrown k4 d os;have e5:=fun d os=>cell_regrown k5 d os;have e6:=fun d os=>cell_regrown k6 d os;have e7:=fun d os=>cell_regrown k7 d os;have e8:=fun d os=>cell_regrown k8 d os;have p0:=fun d os=>cell_regrown r0 d os;have p1:=fun d os=>cell_regrown r1 d os;have p2:=fun d os=>cell_regrown r2 d os;have p3:=fun d os=>cell_regrown r3 d os;have p4:=fun d os=>cell_regrown r4 d os;have p5:=fun d os=>cell_regrown r5 d os;have p6:=fun d os=>cell_regrown r6 d os;have cF:∀b os,Calls prog 155 #[.agg (zF A0 A1 A2 c0 c1 c2 m),.agg (uX f none 0 0),.slice A x.length c] (grow (redrawn W b) os) fun e w''=>e=.returned (.int .i64 (zK m.live.length m.qc.length (qE m) f x))∧∃q:Regrown,w''=grow (redrawn W q.d) q.os :=
  fun b os=>Calls.regrown_of (qbN (HA.out.below (below_regrown W b os)).tab.mt.qc tO.out f none 0 0 A c x (HX2.out.below (below_regrown W b os)) HXL.out)
 have HFC:=QH (qdV hR f x);obtain⟨PN,hPN⟩:=QE (xr N m f x);obtain⟨F,hF⟩:=QE (zK m.live.length m.qc.length (qE m) f x);rw[hF,hPN]at HFC;rw[hPN]at HDO;rw[hF]at cF;rw[hPN];obtain⟨n,hn⟩:=QE x.length;rw[hn]at cF ⊢;have HN:=QH hn;clear h h2 hJ hR hA hb2 hr2 hPN hF hf hfb hx hn cZ;unfold zF uX at cF;try dsimp only at cF
 unfold tkV;unfold uX at hW2;go_enter func84,ntmps84;go_upto_region 1 with fail;try rw[hW2]
 clear hW2;go_wp2_with fail;refine dv.out.mono ?_;rintro e W1 ⟨rfl,rfl⟩;clear dv;go_upto_region 4 with fail;refine wp_region_quiet_below vS (by kernel_rfl) ?_;repeat (any_goals (first|go_big_quiet_step (first|exact cF _ _)|quiet_step (first|exact cF _ _)))
 refine wpQuiet_nil ?_;intro _ hw';obtain⟨⟨dq,osq⟩,hw''⟩:=hw';subst hw'';have hb:=below_regrown W dq osq;have zv:=QH (qa qA.out hb);have lL:=QH (HA.out.below hb);have iC:=QH (jM.out.below hb);have HX3:=QH (HX2.out.below hb);clear hb e0 e1 e2 e3 e4 e5 e6 e7 e8 p0 p1 p2 p3 p4 p5 p6 cF HA qA jM HX2 klt k0 k1 k2 k3 k4 k5 k6 k7 k8 k9 ee r0 r1 r2 r3 r4 r5 r6 rlt;generalize grow (redrawn W dq) osq=W3 at *;rcases HFC.out with⟨hc,hpn⟩|⟨rfl,hck,hx8,hso,hle,qdW⟩
 ·have hcb:(F != 0)=true:=by simpa using hc
  have HPN:=QH hpn;have HC:=QH hc;clear hc hpn HFC;go_wp2_with fail;go_ret;rw[HPN.out];exact qdL (qZ nQ.out zv.out) zv.out (qdM HC.out)
 ·have qwC:=qgJ (c:=c) (qZ nQ.out zv.out) HJ.out.rb.1 HR.out.ok HR.out.N1 HX3.out hx8 (fun y hy=>(wE hck y hy).1);rw[HN.out]at qwC;have q19:=QH qwC;have HCK:=QH hck;have HX8:=QH hx8;have HSO:=QH hso;have tL:=QH hle;have qij:=QH qdW;have hce:((0:Int) != 0)=false:=rfl;clear HFC hck hx8 hso hle qdW qwC;go_wp2_with fail;refine q19.out.mono ?_;rintro e W4 ⟨hb4,qoe⟩;have zx:=QH (qa zv.out hb4);have mI:=QH (lL.out.below hb4);have np:=QH (iC.out.below hb4);have zcP:=QH hb4.size;clear hb4 q19;rcases qoe with⟨hne,rfl⟩|⟨h0,pv,rfl,hop⟩
  ·have hcb:((qP N m x).2 != 0)=true:=by simpa using hne
   have HPE:Hid (PN=⟨(qP N m x).2,m,[]⟩):=by
    unfold Hid;rcases qij.out with⟨_,h⟩|⟨h,_⟩
    ·exact h
    ·exact absurd h hne
   have HNE:=QH hne;clear qij hne;generalize (qP N m x).2=pc at *;go_wp2_with fail;go_ret;rw[HPE.out];exact qdL (qZ nQ.out zx.out) zx.out (qdM HNE.out)
  ·have hpw:=qgK HR.out.ok HR.out.N1 h0;have hpl:oQ N m x (qP N m x).1.1 (qP N m x).1.2:=by
    rcases kL HR.out.ok HR.out.N1 x HX8.out (fun c hc=>(wE HCK.out c hc).1)with⟨h7,_⟩|⟨_,hp⟩
    ·rw[h7]at h0;cases h0
    ·exact hp
   have qdW:(f.next=f.all∧PN=⟨0,s3M m f (x9 (zL m f) x (qP N m x).1.1),(qP N m x).1.2⟩)∨(f.next≠f.all∧PN=⟨0,{ m with tok:=qoZ f (x9 (zL m f) x (qP N m x).1.1) },(qP N m x).1.2⟩):=by
    rcases qij.out with⟨h,_⟩|⟨_,h⟩
    ·exact absurd h0 h
    ·exact h
   have qpb:=q1u hpl HR.out.N1 HCK.out;have qwD:=qw3 hpl.len;obtain⟨BA,bc,hpv,hPL⟩:=hop.view;have hnew:=hop.new _ _ _ hpv;have hsp:=qid x (qP N m x).1.1 (zL m f);generalize (qP N m x).1.1=at_ at *;generalize (qP N m x).1.2=ws at *;have bm:(zL m f).length=b:=HSO.out.1;have hml:m.live.length=b:=HR.out.ok.len;have dP:(x9 (zL m f) x at_).length=b:=by rw[oU];exact bm
   have HPW:=QH hpw;have HPL:=QH hPL;have qwE:=QH qwD;have qcB:=QH hnew;have nt:=QH qdW;have mJ:=QH bm;have qpc:Hid (∀W A c,bu (fun j=>(o1 j∧j≠v)∨w.heap.size<j) W A (zL m f) c→Below W4.heap.size W4 W→Calls prog 65 #[.slice A (zL m f).length c,.slice BA (PL x at_).length bc] W (qj9 (fun j=>(o1 j∧j≠v)∨w.heap.size<j) (x9 (zL m f) x at_) W)):=fun W A c hs hb=>by
    have:=kz hs (by rw[bm];exact HR.out.ok.b1) (by rw[bm];have:=HR.out.ok.b8;omega) (hPL.below hb) (cb:=bc) (by rw[bm];rw[hml]at qpb;exact qpb) (by rw[qwD];have:=HX8.out;omega) (fun j hj=>.inr (by
     have h1:=np.out.lt;have h2:=hb.size;omega))
    rw[hsp]at this;exact this
   obtain⟨pn,hpn⟩:=QE ((PL x at_).length);rw[hpn]at hpv qpc;have HPN:=QH hpn;subst hpv;obtain⟨qp,qj1⟩:=QE (x9 (zL m f) x at_);rw[qj1]at qpc nt dP;have HIL:=QH dP;obtain⟨P,hP⟩:=QE (PL x at_);rw[hP]at HPW HPL qwE HPN;obtain⟨src,p7⟩:=QE (zL m f);have q6e:=QH p7;rw[p7]at qpc mJ;clear h0 hpw hpl qdW qpb qwD hPL hsp bm hml dP hop hnew qij hpn qj1 hP p7;go_wp2_with fail;refine qQ (by kernel_rfl) 9 [35,36,37,38,39,40,41,42,43] (by kernel_rfl) (qs6 (fun j=>(o1 j∧j≠v)∨w.heap.size<j) v w.heap.size (zF A0 A1 A2 c0 c1 c2 m) (uX f none 0 0) src qp (.slice BA pn bc)) (qk6 _ _ _ _ _ _ _ _) ?_ ?_
   ·intro i o vs ρ W hi hop hρ hfn hb hG;have t0:ρ (.tmp 0)=pt v:=hρ.out 0 rfl;have t4:ρ (.tmp 4)=pt w.heap.size:=hρ.out 4 rfl;have t9:ρ (.tmp 9)=.slice BA pn bc:=hρ.out 9 rfl;have s35:=hρ.at_ 35 0 rfl;have s36:=hρ.at_ 36 1 rfl;have s37:=hρ.at_ 37 2 rfl;have s38:=hρ.at_ 38 3 rfl;have s39:=hρ.at_ 39 4 rfl;have s40:=hρ.at_ 40 5 rfl;have s41:=hρ.at_ 41 6 rfl;have hAW:=mI.out.below hb;obtain⟨klt,k0,k1,k2,k3,k4,k5,k6,k7,k8,k9,ee⟩:=hAW.cells;have hr:=np.out.below hb;have r0:=hr.cell 0;have r1:=hr.cell 1;have r2:=hr.cell 2;have r3:=hr.cell 3;have r4:=hr.cell 4;have r5:=hr.cell 5;have r6:=hr.cell 6;have rlt:=hr.lt;simp only[uX,QA,QB,QC]at r0 r1 r2 r3 r4 r5 r6;rcases i with _|_|_|_|_|_|_|_|_|i;all_goals (first|omega|skip)
    all_goals simp only[QA,QB,QC,Option.some.injEq]at hop
    all_goals subst hop
    ·exact q9 (w':=W) (by unfold execOp;simp only[t0];go_simp) ⟨Below.refl _ _,rfl⟩
    ·have g0:vs 0=_:=hG 0 (by kernel_rfl);exact q9 (w':=W) (by unfold execOp;simp only[s35,g0];go_simp) ⟨Below.refl _ _,rfl⟩
    ·have g1:vs 1=_:=hG 1 (by kernel_rfl);exact q9 (w':=W) (by unfold execOp;simp only[s36,g1];go_simp) ⟨Below.refl _ _,rfl⟩
    ·have g2:vs 2=_:=hG 2 (by kernel_rfl);exact q9 (w':=W) (by unfold zF execOp;simp only[s37,g2];go_simp) ⟨Below.refl _ _,rfl⟩
    ·exact q9 (w':=W) (by unfold uX execOp;simp only[t4];go_simp) ⟨Below.refl _ _,rfl⟩
    ·have g3:vs 3=_:=hG 3 (by kernel_rfl);have g4:vs 4=_:=hG 4 (by kernel_rfl);refine qj (f:=156) (args:=#[.agg (zF A0 A1 A2 c0 c1 c2 m),.agg (uX f none 0 0)]) (w':=W) (by unfold execOp;simp only[hfn,s38,g3,s39,g4];go_simp) ((qgD (G:=fun j=>(o1 j∧j≠v)∨w.heap.size<j) (hAW.tab.mono (fun j hj=>.inl hj)) hAW.sz (fun j hj=>.inr (by omega)) f none 0 0).mono ?_);rintro e W' ⟨A,c,rfl,bm,hb5⟩;rw[q6e.out]at bm ⊢;exact⟨_,rfl,hb5,A,c,rfl,bm⟩
    ·exact q9 (w':=W) (by unfold execOp;simp only[t9];go_simp) ⟨Below.refl _ _,rfl⟩
    ·obtain⟨A,c,g5,bm⟩:=hG 5 (by kernel_rfl);have g6:vs 6=_:=hG 6 (by kernel_rfl);have hp:=qpc.out W A c;refine qj (f:=65) (args:=#[.slice A src.length c,.slice BA pn bc]) (w':=W) (by unfold execOp;simp only[hfn,s40,g5,s41,g6];go_simp) ((hp bm hb).mono ?_);rintro e W' ⟨A,c,rfl,bm,hb5⟩;exact⟨_,rfl,hb5,A,c,rfl,bm⟩
    ·exact q9 (w':=W) (by unfold execOp;simp only[t4];go_simp) ⟨Below.refl _ _,rfl⟩
   ·intro vs W hb hG;have g0:vs 0=_:=hG 0 (by decide);have g3:vs 3=_:=hG 3 (by decide);have g8:vs 8=_:=hG 8 (by decide);obtain⟨AL,cL,g7,bm⟩:=hG 7 (by decide);have hr:=np.out.below hb;have f6:=hr.frozen 6;have r6:=hr.cell 6;have rlt:=hr.lt;simp only[uX,QA,QB,QC]at r6;have yw:Hid (Below w.heap.size w (W.setCell ⟨w.heap.size,6,none⟩ (.slice AL qp.length cL))):=(qa zx.out hb).setCell (p:=⟨w.heap.size,6,none⟩) (Nat.le_refl _) _;have yo:Hid (qf (W.setCell ⟨w.heap.size,6,none⟩ (.slice AL qp.length cL)) w.heap.size 82 (uX f AL qp.length cL)):=by
     have:=hr.qg 6 (.slice AL qp.length cL);simpa[Hid,uX]using this
    have wU:Hid (bu (fun j=>(o1 j∧j≠v)∨w.heap.size≤j) (W.setCell ⟨w.heap.size,6,none⟩ (.slice AL qp.length cL)) AL qp cL) :=
     (bm.stay (ai (fun j hj=>by
      rcases hj with hj|hj
      ·have:=qoM nQ.out j (.inl hj.1);omega
      ·omega))).mono (fun j hj=>by
      rcases hj with hj|hj
      ·exact .inl hj
      ·exact .inr (by omega))
    have HP5:Hid (PlL (W.setCell ⟨w.heap.size,6,none⟩ (.slice AL qp.length cL)) BA P):=(HPL.out.below hb).set (fun b o s e=>by
     have h1:=qcB.out b o s e;have h2:=iC.out.lt;omega)
    obtain⟨W5,ic⟩:=QE (W.setCell ⟨w.heap.size,6,none⟩ (.slice AL qp.length cL));rw[ic]at yw yo wU HP5;simp only[qR,qG,if_true];rw[g7,g8];generalize vs 0=z0;generalize vs 1=z1;generalize vs 2=z2;generalize vs 3=z3;generalize vs 4=z4;generalize vs 5=z5;generalize vs 6=z6;clear hG g0 g3 g7 g8 hb bm hr qpc HPL qcB;simp only[Act.put,List.setIfInBounds_toArray,List.set_cons_succ,List.set_cons_zero];refine qJ (i:=9) (by kernel_rfl) rfl rfl ?_;go_simp;try rw[ic]
    clear f6 r6 rlt ic;refine⟨by kernel_rfl,?_⟩;have j0:=yo.out.cell 0;have j1:=yo.out.cell 1;have j2:=yo.out.cell 2;have j3:=yo.out.cell 3;have j4:=yo.out.cell 4;have j5:=yo.out.cell 5;have j6:=yo.out.cell 6;have jlt:=yo.out.lt;simp only[uX,QA,QB,QC]at j0 j1 j2 j3 j4 j5 j6;by_cases hn:f.next=f.all
    ·have hlt:¬ f.next<f.all:=by omega
     have HPC:Hid (PN.code=0∧PN.m=s3M m f qp∧PN.ws=ws):=by
      unfold Hid;rcases nt.out with⟨_,h⟩|⟨h,_⟩
      ·rw[h];exact⟨rfl,rfl,rfl⟩
      ·exact absurd hn h
     have HDK:=QH (HDO.out HPC.out.1);clear hn;go_wp2_with fail;refine qQ (by kernel_rfl) 13 [55,56,57,58,59,60,61,62,63,64,65,66,67] (by kernel_rfl) (qs7 (fun j=>(o1 j∧j≠v)∨w.heap.size≤j) v w.heap.size (.slice BA pn bc) (.slice AL qp.length cL) m f qp) (qk7 _ _ _ _ _ _ _ _) ?_ ?_
     ·intro i o vs ρ W hi hop hρ hfn hb hG;have t0:ρ (.tmp 0)=pt v:=hρ.out 0 rfl;have t4:ρ (.tmp 4)=pt w.heap.size:=hρ.out 4 rfl;have t9:ρ (.tmp 9)=.slice BA pn bc:=hρ.out 9 rfl;have s57:=hρ.at_ 57 2 rfl;have s58:=hρ.at_ 58 3 rfl;have s59:=hρ.at_ 59 4 rfl;have s60:=hρ.at_ 60 5 rfl;have s61:=hρ.at_ 61 6 rfl;have s62:=hρ.at_ 62 7 rfl;have s63:=hρ.at_ 63 8 rfl;have s64:=hρ.at_ 64 9 rfl;have s65:=hρ.at_ 65 10 rfl;have s66:=hρ.at_ 66 11 rfl;have hr:=yo.out.below hb;have q2:=hr.cell 2;have q3:=hr.cell 3;have q6:=hr.cell 6;have qlt:=hr.lt;simp only[uX,QA,QB,QC]at q2 q3 q6;have hsW:=wU.out.stay (wG.of_below hb);have hiW:qp.length≤1000:=by rw[HIL.out];have:=HR.out.ok.b8;omega
      have hsz:w.heap.size≤W.heap.size:=Nat.le_trans yw.out.size hb.size;clear j0 j1 j2 j3 j4 j5 j6 jlt;rcases i with _|_|_|_|_|_|_|_|_|_|_|_|_|i;all_goals (first|omega|skip)
      all_goals simp only[QA,QB,QC,Option.some.injEq]at hop
      all_goals subst hop
      ·exact q9 (w':=W) (by unfold execOp;simp only[t0];go_simp) ⟨Below.refl _ _,rfl⟩
      ·exact q9 (w':=W) (by unfold execOp;simp only[t9];go_simp) ⟨Below.refl _ _,rfl⟩
      ·exact q9 (w':=W) (by unfold execOp;simp only[t4];go_simp) ⟨Below.refl _ _,rfl⟩
      ·have g2:vs 2=_:=hG 2 (by kernel_rfl);exact q9 (w':=W) (by unfold execOp;simp only[s57,g2];go_simp) ⟨Below.refl _ _,rfl⟩
      ·exact q9 (w':=W) (by unfold execOp;simp only[t4];go_simp) ⟨Below.refl _ _,rfl⟩
      ·have g4:vs 4=_:=hG 4 (by kernel_rfl);exact q9 (w':=W) (by unfold execOp;simp only[s59,g4];go_simp) ⟨Below.refl _ _,rfl⟩
      ·have g3:vs 3=_:=hG 3 (by kernel_rfl);have g5:vs 5=_:=hG 5 (by kernel_rfl);refine qj (f:=157) (args:=#[gv f.target,.slice AL qp.length cL]) (w':=W) (by unfold execOp gv;simp only[hfn,s58,g3,s60,g5];go_simp) ((qnA (G:=fun j=>(o1 j∧j≠v)∨w.heap.size≤j) hsW.at_ hiW HFB.out.target (fun j hj=>.inr (Nat.le_trans hsz hj))).mono ?_);rintro e W' ⟨fe,rfl,hef,hb5⟩;exact⟨fe,rfl,hb5,EfV.of (hef m (s1M m f qp) ⟨by have:=HR.out.ok.few;omega,rfl⟩)⟩
      ·exact q9 (w':=W) (by unfold execOp;simp only[t4];go_simp) ⟨Below.refl _ _,rfl⟩
      ·have g7:vs 7=_:=hG 7 (by kernel_rfl);exact q9 (w':=W) (by unfold execOp;simp only[s62,g7];go_simp) ⟨Below.refl _ _,rfl⟩
      ·have g8:vs 8=_:=hG 8 (by kernel_rfl);refine qj (f:=64) (args:=#[.slice AL qp.length cL]) (w':=W) (by unfold execOp;simp only[hfn,s63,g8];go_simp) ((qj7 (G:=fun j=>(o1 j∧j≠v)∨w.heap.size≤j) hsW hiW (fun j hj=>.inr (Nat.le_trans hsz hj))).mono ?_);rintro e W' ⟨fe,rfl,hef,hb5⟩;exact⟨fe,rfl,hb5,EfV.of (hef (s1M m f qp) _ rfl)⟩
      ·exact q9 (w':=W) (by unfold rh yB execOp;go_simp) ⟨Below.refl _ _,rfl⟩
      ·have g10:vs 10=_:=hG 10 (by kernel_rfl);refine qj (f:=72) (args:=#[.agg (rh yB none 0 0)]) (w':=W) (by unfold execOp;simp only[hfn,s65,g10];go_simp) ((ri (G:=fun j=>(o1 j∧j≠v)∨w.heap.size≤j) (t:=yB) (js.none W) (by decide) qoO (fun j hj=>.inr (Nat.le_trans hsz hj))).mono ?_);rintro e W' ⟨fe,rfl,hef,hb5⟩;exact⟨fe,rfl,hb5,EfV.of (hef (s2M m f qp) _ rfl)⟩
      ·have g6:=hG 6 (by kernel_rfl);have g9:=hG 9 (by kernel_rfl);have g11:=hG 11 (by kernel_rfl);obtain⟨⟨ka,ca,ea⟩,ga⟩:=g6;obtain⟨⟨kb,cb,eb⟩,gb⟩:=g9;obtain⟨⟨kc,cc,ec⟩,gc⟩:=g11;have hb1:=(Below.refl _ W).alloc (Nat.le_refl _) (.cells #[.func (.func ka) #[] ca,.func (.func kb) #[] cb,.func (.func kc) #[] cc] 129);rw[ea]at ga;rw[eb]at gb;rw[ec]at gc;exact q9 (v:=.slice (some ⟨W.heap.size,0,none⟩) 3 3) (w':=W.alloc (.cells #[.func (.func ka) #[] ca,.func (.func kb) #[] cb,.func (.func kc) #[] cc] 129)) (by unfold execOp;simp only[s61,ea,s64,eb,s66,ec];go_simp) ⟨hb1,_,_,_,_,rfl,qf.new _ _ _,(EfV.of ga).below hb1,(EfV.of gb).below hb1,(EfV.of gc).below hb1⟩
     ·intro vs W hb hG;have g0:vs 0=_:=hG 0 (by decide);have g1:vs 1=_:=hG 1 (by decide);obtain⟨B,f1,f2,f3,g12,rY,he1,he2,he3⟩:=hG 12 (by decide);have HCH:=QH (qig nQ.out (qa yw.out hb) HJ.out ll.out HR.out HPC.out.1 HDK.out (M:=fun i=>if i=0 then m else if i=1 then s1M m f qp else if i=2 then s2M m f qp else s3M m f qp) (n:=3) (c:=3) rfl (HPC.out.2.1.symm) (qgL rY he1.2 he2.2 he3.2) (by omega) (cb:=bc) (HP5.out.below hb) (by rw[qwE.out];have:=HX8.out;omega) (HPW.out.trans HPC.out.2.2.symm));rw[HPN.out]at HCH;simp only[qR,qG,if_true];rw[g0,g1,g12];generalize vs 2=z2;generalize vs 3=z3;generalize vs 4=z4;generalize vs 5=z5;generalize vs 6=z6;generalize vs 7=z7;generalize vs 8=z8;generalize vs 9=z9;generalize vs 10=z10;generalize vs 11=z11;clear hG g0 g1 g12 hb rY he1 he2 he3 j0 j1 j2 j3 j4 j5 j6 jlt;simp only[Act.put,List.setIfInBounds_toArray,List.set_cons_succ,List.set_cons_zero];refine qJ (i:=13) (by kernel_rfl) rfl rfl ?_;go_simp;refine HCH.out.mono ?_;rintro e W7 ⟨r,d',m',lost,sK,iV,rfl,hh⟩;have HH:=QH hh;clear hh HCH;go_simp;refine qJ (i:=14) (by kernel_rfl) rfl rfl ?_;go_simp;refine⟨by kernel_rfl,?_⟩;go_wp2_with fail;go_ret;exact⟨r,d',m',lost,sK,iV,rfl,HH.out⟩
    ·have hlt:f.next<f.all:=by have:=tL.out;omega
     have HPC:Hid (PN.code=0∧PN.m={ m with tok:=qoZ f qp }∧PN.ws=ws):=by
      unfold Hid;rcases nt.out with⟨h,_⟩|⟨_,h⟩
      ·exact absurd h hn
      ·rw[h];exact⟨rfl,rfl,rfl⟩
     have HDK:=QH (HDO.out HPC.out.1);have hst:=ri (G:=fun j=>(o1 j∧j≠v)∨w.heap.size≤j) (t:=qoZ f qp) (A:=AL) (c:=cL) wU.out.at_ (by show qp.length≤1000;rw[HIL.out];have:=HR.out.ok.b8;omega) ⟨HFB.out.base,HFB.out.target,HFB.out.next,HFB.out.all⟩ (fun j hj=>.inr (Nat.le_trans yw.out.size hj));unfold rh qoZ at hst;have HST:=QH hst;clear hn hst;go_wp2_with fail;refine HST.out.mono ?_;rintro e W6 ⟨fe,rfl,hef,vg⟩;have HEF:=QH (hef m PN.m HPC.out.2.1);obtain⟨kf,uP,rfl⟩:=HEF.out.form;have dL:=QH (qa yw.out vg);have HP6:=QH (HP5.out.below vg);clear hef vg HST HP5 j0 j1 j2 j3 j4 j5 j6 jlt;have hb7:=(Below.refl _ W6).alloc (Nat.le_refl _) (.cells #[.func (.func kf) #[] uP] 129);have hk7:=qf.new W6 129 #[.func (.func kf) #[] uP];obtain⟨W7,hW7⟩:=QE (W6.alloc (.cells #[.func (.func kf) #[] uP] 129));rw[hW7]at hb7 hk7;have HCH:=QH (qig nQ.out (qa dL.out hb7) HJ.out ll.out HR.out HPC.out.1 HDK.out (c:=1) rfl rfl (qoN hk7 (HEF.out.below hb7)) (by omega) (cb:=bc) (HP6.out.below hb7) (by rw[qwE.out];have:=HX8.out;omega) (HPW.out.trans HPC.out.2.2.symm));rw[HPN.out]at HCH;clear hb7 hk7 HEF HP6;go_wp2_with fail;try rw[hW7]
     refine HCH.out.mono ?_;rintro e W8 ⟨r,d',m',lost,sK,iV,rfl,hh⟩;have HH:=QH hh;clear hh HCH;go_wp2_with fail;go_ret;exact⟨r,d',m',lost,sK,iV,rfl,HH.out⟩
end Go.Proofs.YtdpbdkacngaemaaGreatDoor.vt.pg
namespace Go.Proofs.YtdpbdkacngaemaaGreatDoor.ch.pg
open _root_.Go.Proofs.Tryz Go Go.RowKit Go.Sort ib
theorem qpd{t:TypeId}{d:TypeDesc}(h:prog.underlying t=some d)(hd:(match d with | .struct _ | .array _ _=>true|_=>false)=true)(w:World):(isAgg t).run prog w=.ok true w:=by
 unfold isAgg;rw[Sem.run_bind,run_underlying h w];cases d <;> simp_all
theorem ny {t:TypeId}{n:Nat}(h:(prog.info? t).map (·.size)=some n)(w:World):(sizeOf t).run prog w=.ok n w:=by
 cases hq:prog.info? t with
 | none=>simp[hq]at h
 | some i =>
  simp[hq]at h;simp[sizeOf,typeInfo,hq,h]
theorem qdX{t:TypeId}{d:TypeDesc}{n:Nat}(h:prog.underlying t=some d)(hd:(match d with | .struct _ | .array _ _=>true|_=>false)=true)(hn:(prog.info? t).map (·.size)=some n)
    (cs xs:List Value) (o:Nat) (hx:(cs.drop o).take n=xs) (w:World):(part t cs.toArray o).run prog w=.ok (.agg xs.toArray) w:=by
 have ha:=qpd h hd w;have hz:=ny hn w;have he:cs.toArray.extract o (o+n)=xs.toArray:=by
  apply Array.ext';rw[Array.toList_extract,List.extract_eq_take_drop,Nat.add_sub_cancel_left];exact hx
 simp only[part,Sem.run_bind,ha,Result.andThen_ok,if_true,hz,Sem.run_pure,he]
theorem qpe:(prog.info? 38).map (·.size)=some 2:=by kernel_rfl
theorem qk9{n:Nat}(s:Sn)(h:qT n s.bs)(h8:n≤8)(w:World):(Instr.field 174 (.agg (sc s).toArray) 0).run prog w=.ok (.agg (vc s.bs).toArray) w:=by
 have hp:=qdX (t:=169) underlying169 rfl aX (sc s) (vc s.bs) 0 (by
  unfold sc;rw[List.drop_zero,List.take_left' (ya h h8)]) w
 simp[Instr.field,run_underlying underlying174,Result.andThen,asAgg,hp]
theorem qpf{n:Nat}(s:Sn)(h:qT n s.bs)(h8:n≤8)(w:World):(Instr.field 174 (.agg (sc s).toArray) 1).run prog w=.ok (gv s.g) w:=by
 have hp:=qdX (t:=38) underlying38 rfl qpe (sc s) [.int .u64 (s.g.1:Int),.int .u64 (s.g.2:Int)] 256 (by
  unfold sc;rw[List.drop_left' (ya h h8)];rfl) w
 simp[Instr.field,run_underlying underlying174,Result.andThen,asAgg,hp,gv]
theorem qs8{own:Nat→Prop}{w:World}{p:Nat}{d:CH}(h:Is0 own w p d)(g:Gd):Calls prog 165 #[.pointer (some ⟨p,0,none⟩),gv g] w fun e w'=>e=.returned (.int .i64 (d.may g))∧Below w.heap.size w w':=by
 obtain⟨h0,v,hr⟩:=h;have hb0:=(Below.refl w.heap.size w).alloc (Nat.le_refl _) (.cells #[.int .u64 (g.1:Int),.int .u64 (g.2:Int)] 38);have hr1:=hr.below hb0;obtain⟨W,hW⟩:=QE (w.alloc (.cells #[.int .u64 (g.1:Int),.int .u64 (g.2:Int)] 38));have q0:W.cell? ⟨w.heap.size,0,none⟩=some (.int .u64 (g.1:Int)):=by rw[← hW];exact(qf.new w _ _).cell 0
 have q1:W.cell? ⟨w.heap.size,1,none⟩=some (.int .u64 (g.2:Int)):=by rw[← hW];exact(qf.new w _ _).cell 1
 rw[hW]at hr1 hb0;have q2:=hr1.c2 h0;have HB:=QH hb0;have HW:=QH hW;have HR:=QH hr1;have gP:=QH h0;have e0:∀d os,(grow (redrawn W d) os).cell? ⟨w.heap.size,0,none⟩=some (.int .u64 (g.1:Int)):=fun d os=>cell_regrown q0 d os;have e1:∀d os,(grow (redrawn W d) os).cell? ⟨w.heap.size,1,none⟩=some (.int .u64 (g.2:Int)):=fun d os=>cell_regrown q1 d os;have e2:∀d os,(grow (redrawn W d) os).cell? ⟨p,257,none⟩=some v:=fun d os=>cell_regrown q2 d os;have qgS:=h0.few;have cL:∀b os,Calls prog 168 #[v] (grow (redrawn W b) os) fun e w''=>e=.returned (.agg (sc (jq d.live.length d.qc)).toArray)∧∃q:Regrown,w''=grow (redrawn W q.d) q.os :=
  fun b os=>Calls.regrown_of (qdB (HR.out.row.below (below_regrown W b os)) gP.out.qc gP.out.n8 qgS)
 have cA:∀b os,Calls prog 241 #[gv g,gv d.last] (grow (redrawn W b) os) fun e w''=>e=.returned (.bool (above g d.last))∧∃q:Regrown,w''=grow (redrawn W q.d) q.os :=
  fun b os=>Calls.regrown_of (km g d.last _)
 have hfi:=qpf (jq d.live.length d.qc) (pY h0.qc) h0.n8;rw[qsn]at hfi;obtain⟨L,hL⟩:=QE (gv d.last);obtain⟨S,hS⟩:=QE ((sc (jq d.live.length d.qc)).toArray);rw[hL]at cA hfi;rw[hS]at cL hfi;have HM:Hid (d.may g=if above g d.last then(if 20≤d.qc.length then 3 else 0)else 2):=rfl;obtain⟨m,hm⟩:=QE (d.may g);rw[hm]at HM ⊢;generalize above g d.last=q at *;obtain⟨A,c,rfl,hlc,_,_⟩:=yZ hr1.row h0.qc h0.n8;clear q0 q1 q2 hW hb0 hL hm hr1 hr h0 hS;unfold gv at cA ⊢;go_enter func165,ntmps165;go_wp2_with fail;rw[HW.out];refine wp_region_quiet_below vS (by kernel_rfl) ?_;repeat (any_goals (first|go_big_quiet_step (first|exact cL _ _|exact cA _ _)|quiet_step (first|exact cL _ _|exact cA _ _)))
 refine wpQuiet_nil ?_;intro _ hw';obtain⟨⟨dq,osq⟩,hw''⟩:=hw';subst hw'';have c2:=e2 dq osq;have hb:=below_regrown W dq osq;have qA:=QH (HB.out.trans (hb.mono HB.out.size));clear hb e0 e1 e2 cL cA HR HB HW;generalize grow (redrawn W dq) osq=W2 at *;cases q with
 | false =>
  have HT:Hid (m=2):=by unfold Hid;rw[HM.out];rfl
  clear HM;go_wp2_with fail;go_ret;exact⟨by rw[HT.out];rfl,qA.out⟩
 | true =>
  by_cases hx:(20:Int)≤(d.qc.length:Int)
  ·have HT:Hid (m=3):=by unfold Hid;rw[HM.out,if_pos rfl,if_pos (by omega)]
   clear HM;go_wp2_with fail;go_ret;exact⟨by rw[HT.out];rfl,qA.out⟩
  ·have HT:Hid (m=0):=by unfold Hid;rw[HM.out,if_pos rfl,if_neg (by omega)]
   clear HM;go_wp2_with fail;go_ret;exact⟨by rw[HT.out];rfl,qA.out⟩
theorem qpg{d:CH}(h:d.ok)(s:Sn)(hl:d.qc.length<20)(hs:qT d.live.length s.bs)(hg:xB s.g):CH.ok ⟨d.live,d.qc++[s]⟩:=by
 refine⟨h.live,h.n1,h.n8,fun x hx=>?_,?_,fun x hx=>?_⟩
 ·rcases List.mem_append.1 hx with hx|hx
  ·exact h.qc x hx
  ·obtain rfl:x=s:=by simpa using hx
   exact hs
 ·show(d.qc++[s]).length≤20;rw[List.length_append,List.length_singleton];omega
 ·rcases List.mem_append.1 hx with hx|hx
  ·exact h.tx x hx
  ·obtain rfl:x=s:=by simpa using hx
   exact hg
theorem uW.q1A{w w1:World}{own:Nat→Prop}{p:Nat}{v v':Value}{d:CH}{l:List Sn}(h:uW w own p v d)(hb:Below w.heap.size w w1)(hr:vT w1 v' l)(ho:d.ok)(hn:∀k,v'.ownBlock=some k→own k∨w.heap.size≤k) :
    uW (w1.setCell ⟨p,257,none⟩ v') (fun j=>own j∨v'.ownBlock=some j) p v' ⟨d.live,l⟩:=by
 have hb1:=h.blk.of_block (hb.block p h.blk.lt);have hp:=hr.ne hb1 (by decide);refine⟨?_,hr.of_block (fun k hk=>qw _ _ _ _ _ (hp k hk)),.inl h.op,fun k hk=>.inr hk,fun j hj=>?_⟩
 ·have:=hb1.qg 257 v';rw[qd9 ho.live ho.n8]at this;exact this
 ·have e:(w1.setCell ⟨p,257,none⟩ v').heap.size=w1.heap.size:=by simp[World.setCell]
  rw[e];rcases hj with hj|hj
  ·exact Nat.lt_of_lt_of_le (h.low j hj) hb.size
  ·exact hr.lt j hj
def PuG (p:Nat)(A:Option Addr)(n c B:Nat)(S:List Value):Nat→Value→World→Prop
 | 0,v,_=>v=.pointer (some ⟨p,0,none⟩)
 | 1,v,_=>v=.pointer (some ⟨p,0,none⟩)
 | 2,v,_=>v=.pointer (some ⟨p,0,none⟩)
 | 3,v,_=>v=.pointer (some ⟨p,257,none⟩)
 | 4,v,_=>v=.slice A n c
 | 5,v,_=>v=.int .i64 (n:Int)
 | 6,v,_=>v=.int .i64 (n:Int)
 | 7,v,_=>v=.slice A n n
 | 8,v,_=>v=.agg S.toArray
 | 9,v,w=>∃b,v=.slice (some ⟨b,0,none⟩) 1 1∧qf w b 174 S.toArray∧B≤b
 | _,_,_=>True
theorem qph(p:Nat)(A:Option Addr)(n c B:Nat)(S:List Value)(i:Nat)(v:Value)(w w':World)(hi:i<10)(h:PuG p A n c B S i v w)(hb:Below w.heap.size w w'):PuG p A n c B S i v w':=by
 match i,hi,h with
 | 0,_,h | 1,_,h | 2,_,h | 3,_,h | 4,_,h | 5,_,h | 6,_,h | 7,_,h | 8,_,h=>exact h
 | 9,_,⟨b,h1,h2,h3⟩=>exact⟨b,h1,h2.below hb,h3⟩
theorem kz {own:Nat→Prop}{w:World}{p:Nat}{v:Value}{d:CH}(h:uW w own p v d)(ho:d.ok)(hl:d.qc.length<20)(s:Sn)(hs:qT d.live.length s.bs) :
    Calls prog 166 #[.pointer (some ⟨p,0,none⟩),.agg (sc s).toArray] w fun e w'=>e=.returned (.tuple #[])∧∃v' yI,uW w' yI p v' ⟨d.live,d.qc++[s]⟩∧qz (fun j=>j=p) w w'∧∀j,yI j→own j∨w.heap.size≤j:=by
 obtain⟨i0,hi,hz0,hz1,hz2⟩:=info_parts nu;have mJ:Hid ((sc s).length=259):=kZ hs ho.n8;have bY:=QH (qbH s);have xP:=QH (qkl d.qc s);have HLEN:=QH (qo3 ho.qc ho.n8);obtain⟨S,hS⟩:=QE (sc s);rw[hS]at mJ bY xP ⊢;have hb0:=(Below.refl w.heap.size w).alloc (Nat.le_refl _) (.cells S.toArray 174);have hr1:=h.below hb0;have HBX:Hid (qf (w.alloc (.cells S.toArray 174)) w.heap.size 174 S.toArray):=qf.new _ _ _;have HB:=QH hb0;have HR:=QH hr1;have fZ:=QH h;have HO:=QH ho;obtain⟨A,c,rfl,hlc,hA,_⟩:=yZ h.row ho.qc ho.n8;have hcl:=hr1.row.cells;have HA:=QH hcl.2.1;have HCE:=QH hcl.2.2;have c2:=hr1.c2 ho;have hci:((d.qc.length:Nat):Int)≤(c:Int):=by omega
 have HL:=QH hl;clear h hb0 hr1 hcl hA hS ho hl hs;have qdS:=HR.out.blk.lt;go_enter func166,ntmps166;go_wp2_with (refine qi rfl (fA 174 (.tmp 1) S.toArray rfl rfl (by rw[kD,List.size_toArray,mJ.out]) (kr bY.out)) ?_);have C2:=QH c2;obtain⟨n,hn⟩:=QE d.qc.length;have HN:=QH hn;rw[hn]at HA HL HLEN hlc hci C2 c2 ⊢;clear hn c2;obtain⟨W1,hW1⟩:=QE (w.alloc (.cells S.toArray 174));rw[hW1]at HBX HB HR HCE C2 qdS ⊢;clear hW1;refine vw (by kernel_rfl) 10 [10,11,12,13,14,15,16,17,18,19] (by kernel_rfl) (PuG p A n c W1.heap.size S) _ (.pointer (some ⟨p,0,none⟩)) rfl (by decide) (by kernel_rfl) (by kernel_rfl) (by kernel_rfl) (fun _ _ _ h=>h) (Or.inl ⟨by rfl,fun w=>by go_simp⟩) (fun _=>rfl) (qph _ _ _ _ _ _) ?_ ?_
 ·intro i o vs ρ W zcV hop hρ hfn hb hG;have t0:ρ (.tmp 0)=.pointer (some ⟨p,0,none⟩):=hρ.out 0 rfl;have t3:ρ (.tmp 3)=.pointer (some ⟨w.heap.size,0,none⟩):=hρ.out 3 rfl;have t4:ρ (.tmp 4)=.int .i64 (n:Int):=hρ.out 4 rfl;have s11:=hρ.at_ 11 1 rfl;have s12:=hρ.at_ 12 2 rfl;have tD:=hρ.at_ 13 3 rfl;have s14:=hρ.at_ 14 4 rfl;have s15:=hρ.at_ 15 5 rfl;have s16:=hρ.at_ 16 6 rfl;have s18:=hρ.at_ 18 8 rfl;have c2:W.cell? ⟨p,257,none⟩=some (.slice A n c):=(hb.cell (p:=⟨p,257,none⟩) qdS).trans C2.out;rcases i with _|_|_|_|_|_|_|_|_|_|i;all_goals (first|omega|skip)
  all_goals simp only[QA,QB,QC,Option.some.injEq]at hop
  all_goals subst hop
  ·exact q9 (w':=W) (by unfold execOp;simp only[t0];go_simp) ⟨Below.refl _ _,rfl⟩
  ·exact q9 (w':=W) (by unfold execOp;simp only[t0];go_simp) ⟨Below.refl _ _,rfl⟩
  ·have g1:vs 1=_:=hG 1 (by kernel_rfl);exact q9 (w':=W) (by unfold execOp;simp only[s11,g1];go_simp) ⟨Below.refl _ _,rfl⟩
  ·have g2:vs 2=_:=hG 2 (by kernel_rfl);exact q9 (w':=W) (by unfold execOp;simp only[s12,g2];go_simp) ⟨Below.refl _ _,rfl⟩
  ·have g3:vs 3=_:=hG 3 (by kernel_rfl);exact q9 (w':=W) (by unfold execOp;simp only[tD,g3];go_simp) ⟨Below.refl _ _,rfl⟩
  ·exact q9 (w':=W) (by unfold execOp;simp only[t4];go_simp) ⟨Below.refl _ _,rfl⟩
  ·exact q9 (w':=W) (by unfold execOp;simp only[t4];go_simp) ⟨Below.refl _ _,rfl⟩
  ·have g4:vs 4=_:=hG 4 (by kernel_rfl);have g5:vs 5=_:=hG 5 (by kernel_rfl);have g6:vs 6=_:=hG 6 (by kernel_rfl);exact q9 (w':=W) (by unfold execOp;simp only[s14,g4,s15,g5,s16,g6];go_simp) ⟨Below.refl _ _,rfl⟩
  ·exact q9 (w':=W) (qU 174 (.tmp 3) rfl w.heap.size 0 t3 _ _ S _ _ (HBX.out.below hb) underlying174 rfl (by rw[kD,mJ.out]) (fun j u hu=>by rw[Nat.zero_add];simpa using hu)) ⟨Below.refl _ _,rfl⟩
  ·have g8:vs 8=_:=hG 8 (by kernel_rfl);exact q9 (qn5 170 174 (.tmp 18) S.toArray 259 rfl (s18.trans g8) underlying170 i0 _ hi hz0 hz1 (by decide) (by decide) (by rw[List.size_toArray,mJ.out])) ⟨(Below.refl _ W).alloc (Nat.le_refl _) _,W.heap.size,rfl,qf.new _ _ _,hb.size⟩
 ·intro vs W hb hG;have g0:vs 0=_:=hG 0 (by decide);have g7:vs 7=_:=hG 7 (by decide);obtain⟨bb,g9,zy,hbB⟩:=hG 9 (by decide);have B2:=QH (HB.out.trans (hb.mono HB.out.size));have jM:=QH (HR.out.below hb);have q1B:Hid (∀b,A=some b→∀j u,(dt d.qc)[j]?=some u→W.cell? (b.add j)=some u):=(jM.out.row.cells).2.2;have wI:Hid (∀j u,S[j]?=some u→W.cell? ((⟨bb,0,none⟩:Addr).add j)=some u):=fun j u hu=>by
   rw[addr_add,Nat.zero_add,zy.cell j];simpa using hu
  simp only[qR,qG,if_true];rw[g0,g7,g9];generalize vs 1=z1;generalize vs 2=z2;generalize vs 3=z3;generalize vs 4=z4;generalize vs 5=z5;generalize vs 6=z6;generalize vs 8=z8;clear hG g0 g7 g9 hb zy hbB;simp only[Act.put,List.setIfInBounds_toArray,List.set_cons_succ,List.set_cons_zero];refine qJ (i:=10) (by kernel_rfl) rfl rfl ?_;refine ah (.tmp 17) (.tmp 19) 170 rfl 174 i0 _ 259 280 underlying170 hi hz0 hz1 hz2 A n (dt d.qc) rfl HLEN.out HA.out q1B.out ⟨bb,0,none⟩ 1 1 S rfl (by rw[mJ.out]) wI.out (by decide) (by have:=HL.out;unfold maxLen;omega) (by have:=HL.out;omega) ?_;intro cap cur w1 hb1 zt ht1 hc1 hc2 hsz;have HRW:Hid (vT w1 (.slice (some ⟨W.heap.size,0,none⟩) (n+1) cap) (d.qc++[s])):=by
   refine⟨some ⟨W.heap.size,0,none⟩,cap,?_,?_,hc2,.inr ⟨W.heap.size,cur,rfl,zt,?_⟩⟩
   ·rw[List.length_append,HN.out];rfl
   ·rw[List.length_append,HN.out];exact hc1
   ·rw[List.length_append,HN.out,xP.out];exact ht1
  have HP:=QH (uW.q1A jM.out hb1 HRW.out HO.out (fun k hk=>by
   simp[Value.ownBlock]at hk;exact .inr (by omega)))
  have cM:=QH (((qz.of_below (S:=fun j=>j=p) B2.out).trans (S':=fun _=>False) (qz.of_below hb1) (fun _ h=>h.elim)).setCell ⟨p,257,none⟩ (.slice (some ⟨W.heap.size,0,none⟩) (n+1) cap) (.inl rfl));have HOW:Hid (∀j,(own j∨(Value.slice (some ⟨W.heap.size,0,none⟩) (n+1) cap).ownBlock=some j)→own j∨w.heap.size≤j):=fun j hj=>by
   rcases hj with hj|hj
   ·exact .inl hj
   ·simp[Value.ownBlock]at hj;have:=B2.out.size;exact .inr (by omega)
  have f1:w1.frozen? ⟨p,257,none⟩=false:=(jM.out.blk.of_block (hb1.block p jM.out.blk.lt)).frozen 257;obtain⟨b1,zcW⟩:∃z,w1.cell? ⟨p,257,none⟩=some z:=⟨_,(hb1.cell (p:=⟨p,257,none⟩) jM.out.blk.lt).trans (jM.out.c2 HO.out)⟩;clear hb1 zt ht1 hc1 hc2 hsz HRW q1B wI HCE;go_simp;refine qJ (i:=11) (by kernel_rfl) rfl rfl ?_;go_simp;refine qJ (i:=12) (by kernel_rfl) rfl rfl ?_;go_simp;refine qJ (i:=13) (by kernel_rfl) rfl rfl ?_;go_simp;refine⟨by kernel_rfl,?_⟩;go_wp2_with fail
  go_end0
  exact⟨rfl,_,_,HP.out,cM.out,HOW.out⟩
theorem qpi{w:World}{n gb:Nat}(s:Sn)(hs:qT n s.bs)(h8:n≤8)(g:Gd)(hgb:gb<w.heap.size)(q0:w.cell? ⟨gb,0,none⟩=some (.int .u64 (g.1:Int)))(q1:w.cell? ⟨gb,1,none⟩=some (.int .u64 (g.2:Int))) :
    Calls prog 243 #[.agg (sc s).toArray,.pointer (some ⟨gb,0,none⟩)] w fun e w'=>e=.returned (.bool (decide (s.g=g)))∧Below w.heap.size w w':=by
 have mJ:Hid ((sc s).length=259):=kZ hs h8;have bY:=QH (qbH s);have h1:=qtR hs h8;have h2:=qtS hs h8;have hq:=qmj s.g g;obtain⟨S,hS⟩:=QE (sc s);rw[hS]at mJ bY h1 h2 ⊢;have hb0:=(Below.refl w.heap.size w).alloc (Nat.le_refl _) (.cells S.toArray 174);have e0:(w.alloc (.cells S.toArray 174)).cell? ⟨w.heap.size,256,none⟩=some (.int .u64 (s.g.1:Int)):=by
  rw[(qf.new w 174 S.toArray).cell 256];simpa using h1
 have e1:(w.alloc (.cells S.toArray 174)).cell? ⟨w.heap.size,257,none⟩=some (.int .u64 (s.g.2:Int)):=by
  rw[(qf.new w 174 S.toArray).cell 257];simpa using h2
 have p0:=(hb0.cell (p:=⟨gb,0,none⟩) hgb).trans q0;have p1:=(hb0.cell (p:=⟨gb,1,none⟩) hgb).trans q1;have HB:=QH hb0;obtain⟨r,hr⟩:=QE (decide (s.g=g));rw[hr]at hq ⊢;generalize (s.g.1:Int)=x1 at *;generalize (s.g.2:Int)=x2 at *;generalize (g.1:Int)=y1 at *;generalize (g.2:Int)=y2 at *;obtain⟨b1,hb1⟩:=QE (x1 == y1);obtain⟨b2,hb2⟩:=QE (x2 == y2);rw[hb1,hb2]at hq;subst hq;clear hS h1 h2 hb0 hr hs;have E0:=QH e0;have E1:=QH e1;have P0:=QH p0;have P1:=QH p1;clear e0 e1 p0 p1 q0 q1;cases b1 <;> cases b2;all_goals
  go_enter func243,ntmps243;go_wp2_with (refine qi rfl (fA 174 (.tmp 0) S.toArray rfl rfl (by rw[kD,List.size_toArray,mJ.out]) (kr bY.out)) ?_;have e0:=E0.out;have e1:=E1.out;have p0:=P0.out;have p1:=P1.out;generalize w.alloc (.cells S.toArray 174)=W at *);go_ret;exact⟨rfl,HB.out⟩
def sS (l:List Sn)(g:Gd):Int:=match l.findIdx? fun s=>decide (s.g=g)with
 | none=>-1
 | some i=>(i:Int)
theorem qpj{l:List Sn}{g:Gd}{k:Nat}(hk:k<l.length)(hg:l[k].g=g)(hb:∀j (h:j<l.length),j<k→l[j].g≠g):sS l g=(k:Int):=by
 unfold sS;have:(l.findIdx? fun s=>decide (s.g=g))=some k:=by
  rw[List.findIdx?_eq_some_iff_getElem];exact⟨hk,by simpa using hg,fun j hj=>by simpa using hb j (by omega) hj⟩
 rw[this]
theorem qpk{l:List Sn}{g:Gd}(hb:∀j (h:j<l.length),l[j].g≠g):sS l g = -1:=by
 unfold sS;have:(l.findIdx? fun s=>decide (s.g=g))=none:=by
  rw[List.findIdx?_eq_none_iff];intro s hs;obtain⟨j,hj,rfl⟩:=List.getElem_of_mem hs;simpa using hb j hj
 rw[this]
def q1C (l:List Sn)(g:Gd)(w:World)(i:Value)(wr:World):Prop :=
 ∃k:Nat,k≤l.length∧i=.int .i64 (k:Int)∧(∀j (h:j<l.length),j<k→l[j].g≠g)∧Below w.heap.size w wr
theorem qs9{w:World}{n gb:Nat}{v:Value}{l:List Sn}(h:vT w v l)(ho:∀s∈l,qT n s.bs)(h8:n≤8)(h20:l.length≤20)(g:Gd)(hgb:gb<w.heap.size)(q0:w.cell? ⟨gb,0,none⟩=some (.int .u64 (g.1:Int)))(q1:w.cell? ⟨gb,1,none⟩=some (.int .u64 (g.2:Int))) :
    Calls prog 242 #[v,.func (.func 243) #[] #[.pointer (some ⟨gb,0,none⟩)]] w fun e w'=>e=.returned (.int .i64 (sS l g))∧Below w.heap.size w w':=by
 obtain⟨A,c,rfl,hlc,hA,hx⟩:=yZ h ho h8;have HX:=QH hx;have HQ0:=QH q0;have HQ1:=QH q1;have HO:=QH ho;have nt:=QH (fun k hk hg hb=>qpj (l:=l) (g:=g) (k:=k) hk hg hb);have HRN:=QH (fun hb=>qpk (l:=l) (g:=g) hb);obtain⟨R,hR⟩:=QE (sS l g);rw[hR]at nt HRN ⊢;clear hx q0 q1 h hR ho;go_enter func242,ntmps242;go_wp2_with fail;go_loopw [8] (fun i wr=>q1C l g w i wr) (fun i _=>l.length-(intOf i).toNat);case atStart=>exact⟨0,Nat.zero_le _,rfl,fun j _ h=>absurd h (by omega),Below.refl _ _⟩
 case round =>
  obtain⟨k,hk,rfl,hno,hB⟩:=hrel;have jT:=QH hno;have HB:=QH hB;clear hno hB;by_cases hlt:k<l.length
  ·have yt:(k:Int)<(l.length:Int):=by omega
   obtain⟨gr,cur,rfl,hb,hc⟩:=HX.out k hlt;have hso:=HO.out _ (List.getElem_mem hlt);have mJ:Hid ((sc l[k]).length=259):=kZ hso h8;have kX:=QH (hb.below HB.out);have HC:=QH hc;have kJ:=QH (qpi l[k] hso h8 g (w:=wr) (Nat.lt_of_lt_of_le hgb HB.out.size) ((HB.out.cell (p:=⟨gb,0,none⟩) hgb).trans HQ0.out) ((HB.out.cell (p:=⟨gb,1,none⟩) hgb).trans HQ1.out));have HYE:=QH (fun(e:l[k].g=g)=>nt.out k hlt e jT.out);have kU:Hid (l[k].g≠g→∀j (h:j<l.length),j<k+1→l[j].g≠g):=fun hne j hj hjk=>by
    by_cases qoc:j<k
    ·exact jT.out j hj qoc
    ·obtain rfl:j=k:=by omega
     exact hne
   clear hb hc hso;generalize sc l[k]=S at *;generalize l[k].g=gk at *;go_wp2_with (refine qi rfl (qU 174 (.tmp 14) rfl gr (k*259) rfl _ cur S _ _ kX.out underlying174 rfl (by rw[kD,mJ.out]) HC.out) ?_);refine kJ.out.mono ?_;rintro e W1 ⟨rfl,hb1⟩;have qO:=QH (HB.out.trans (hb1.mono HB.out.size));clear hb1;by_cases hg:gk=g
   ·rw[decide_eq_true hg];have HR:=QH (HYE.out hg);clear hg HYE kU kJ;go_wp2_with fail;go_ret;rw[HR.out];exact⟨rfl,qO.out⟩
   ·rw[decide_eq_false hg];have HN:=QH (kU.out hg);clear hg HYE kU kJ;go_wp2_with fail;go_roundw;case rel=>exact⟨k+1,by omega,by go_num,HN.out,qO.out⟩
    case measure=>simp[intOf];omega
  ·have yt:¬ (k:Int)<(l.length:Int):=by omega
   have HR:=QH (HRN.out (fun j hj=>jT.out j hj (by omega)));go_wp2_with fail;go_ret;rw[HR.out];exact⟨rfl,HB.out⟩
def bP (d:CH)(g:Gd):Int × Int:=match d.find g with
 | none=>(0,5)
 | some i=>match d.qc[i]? with
  | none=>(0,5)
  | some s=>if s.hid then(0,14)else((i:Int),0)
theorem qkA(d:CH)(g:Gd):(sS d.qc g = -1∧bP d g=(0,5))∨∃i s,sS d.qc g=((i:Nat):Int)∧i<d.qc.length∧d.qc[i]?=some s∧bP d g=if s.hid then(0,14)else((i:Int),0):=by
 unfold sS bP CH.find;cases hf:d.qc.findIdx? fun s=>decide (s.g=g)with
 | none=>exact .inl ⟨rfl,rfl⟩
 | some i =>
  have hi:=(List.findIdx?_eq_some_iff_getElem.1 hf).1;refine .inr ⟨i,d.qc[i],rfl,hi,List.getElem?_eq_getElem hi,?_⟩;show(match d.qc[i]? with
   | none=>((0:Int),(5:Int))
   | some s=>if s.hid then(0,14)else((i:Int),0))=_
  rw[List.getElem?_eq_getElem hi]
theorem qdY(d:CH)(g:Gd):(∃c,c≠0∧bP d g=(0,c)∧d.qno g=(d,c)∧d.read g=([],c)) ∨
    ∃(i:Nat) (s:Sn),bP d g=((i:Int),0)∧i<d.qc.length∧d.qc[i]?=some s∧d.qno g=(⟨d.live,kW d.qc i⟩,0)∧d.read g=(s.bs,0):=by
 unfold bP CH.qno CH.read;cases hf:d.find g with
 | none=>exact .inl ⟨5,by decide,rfl,rfl,rfl⟩
 | some i =>
  dsimp only;have hi:=(List.findIdx?_eq_some_iff_getElem.1 hf).1;rw[List.getElem?_eq_getElem hi];dsimp only;cases hh:d.qc[i].hid with
  | true=>exact .inl ⟨14,by decide,by simp,by simp,by simp⟩
  | false=>exact .inr ⟨i,d.qc[i],by simp,hi,List.getElem?_eq_getElem hi,by simp,by simp⟩
theorem uS {own:Nat→Prop}{w:World}{p:Nat}{d:CH}(h:Is0 own w p d)(g:Gd):Calls prog 169 #[.pointer (some ⟨p,0,none⟩),gv g] w fun e w'=>e=.returned (.tuple #[.int .i64 (bP d g).1,.int .i64 (bP d g).2])∧Below w.heap.size w w':=by
 obtain⟨h0,v,hr⟩:=h;have hb0:=(Below.refl w.heap.size w).alloc (Nat.le_refl _) (.cells #[.int .u64 (g.1:Int),.int .u64 (g.2:Int)] 38);have hr1:=hr.below hb0;have q0:(w.alloc (.cells #[.int .u64 (g.1:Int),.int .u64 (g.2:Int)] 38)).cell? ⟨w.heap.size,0,none⟩=some (.int .u64 (g.1:Int)):=(qf.new w _ _).cell 0;have q1:(w.alloc (.cells #[.int .u64 (g.1:Int),.int .u64 (g.2:Int)] 38)).cell? ⟨w.heap.size,1,none⟩=some (.int .u64 (g.2:Int)):=(qf.new w _ _).cell 1;have HI:=QH (qs9 hr1.row h0.qc h0.n8 h0.few g (by simp) q0 q1);have q2:=hr1.c2 h0;have HFI:=QH (qkA d g);have HB:=QH hb0;have HR:=QH hr1;have gP:=QH h0;obtain⟨R,hR⟩:=QE (bP d g);rw[hR]at HFI ⊢;obtain⟨X,hX⟩:=QE (sS d.qc g);rw[hX]at HFI HI;have qgS:=h0.few;have qdS:=HR.out.blk.lt;obtain⟨A,c,rfl,hlc,_,_⟩:=yZ hr1.row h0.qc h0.n8;clear q0 q1 hb0 hr1 hr h0 hR hX;unfold gv;go_enter func169,ntmps169;go_wp2_with fail;refine HI.out.mono ?_;rintro e W1 ⟨rfl,hb1⟩;have qO:=QH (HB.out.trans (hb1.mono HB.out.size));have uq:=QH (HR.out.below hb1);clear hb1 HI q2 HB HR;rcases HFI.out with⟨rfl,hf⟩|⟨i,s,rfl,dP,hs,hf⟩
 ·have HF:=QH hf;clear hf HFI;go_wp2_with fail;go_ret2;rw[HF.out];exact⟨rfl,qO.out⟩
 ·have HF:=QH hf;obtain⟨A2,c3,e,_,_,hx⟩:=yZ uq.out.row gP.out.qc gP.out.n8;simp only[Value.slice.injEq]at e;obtain⟨rfl,_,rfl⟩:=e;obtain⟨gr,cur,rfl,hb,hc⟩:=hx i dP;obtain rfl:d.qc[i]=s:=by
   rw[List.getElem?_eq_getElem dP]at hs;exact Option.some.inj hs
  have hso:=gP.out.qc _ (List.getElem_mem dP);have c3:W1.cell? ⟨gr,i*259+258,none⟩=some (.bool d.qc[i].hid):=by
   rw[hb.cell];exact hc 258 _ (qwj hso gP.out.n8)
  have q2:=uq.out.c2 gP.out;have hii:(i:Int)<(d.qc.length:Int):=by omega
  have hin:¬ (i:Int)<0:=by omega
  generalize d.qc[i].hid=hd at *;clear hf HFI hx hb hc hso hs;cases hd with
  | true =>
   have HF2:Hid (R=(0,14)):=by unfold Hid;simpa using HF.out
   go_wp2_with fail;go_ret2;rw[HF2.out];exact⟨rfl,qO.out⟩
  | false =>
   have HF2:Hid (R=((i:Int),0)):=by unfold Hid;simpa using HF.out
   go_wp2_with fail;go_ret2;rw[HF2.out];exact⟨rfl,qO.out⟩
end Go.Proofs.YtdpbdkacngaemaaGreatDoor.ch.pg

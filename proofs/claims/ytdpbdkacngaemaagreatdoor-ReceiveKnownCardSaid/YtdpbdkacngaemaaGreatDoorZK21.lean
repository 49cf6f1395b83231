/- VgTok, Step, JWrites, JKept, JAlike, JReady, JWorks, JAllP, JTwiceP, JKnP, JKnC, VgOpn, DkApp2, DkCopy, DkCopy2, VgFmt. -/
import Derived.Test.YtdpbdkacngaemaaGreatDoorZK20
import Derived.Deep.RegionLawGrows
import Derived.Shelf.SlMaps.Clone
import Derived.Laws.Cover3
set_option linter.unusedVariables false
set_option linter.unusedSimpArgs false
set_option maxHeartbeats 30000000
set_option maxRecDepth 100000
namespace Go.Proofs.YtdpbdkacngaemaaGreatDoor.vt.pg
open _root_.Go.Proofs.Tryz Go Go.RowKit Go.Sort ib mt im sp
def qeb (W:World)(g:Nat)(t:Tk)(v:Value):World :=
 ((((((W.setCell ⟨g,0,none⟩ (.int .u64 (t.base.1:Int))).setCell ⟨g,1,none⟩ (.int .u64 (t.base.2:Int))).setCell ⟨g,2,none⟩ (.int .u64 (t.target.1:Int))).setCell ⟨g,3,none⟩ (.int .u64 (t.target.2:Int))).setCell ⟨g,4,none⟩ (.int .i64 t.next)).setCell ⟨g,5,none⟩ (.int .i64 t.all)).setCell ⟨g,6,none⟩ v
theorem qbA{W:World}{g:Nat}{z0 z1 z2 z3 z4 z5 z6:Value}(t:Tk)(A:Option Addr)(c:Nat)(h:qh W g 82 #[z0,z1,z2,z3,z4,z5,z6]):qh (qeb W g t (.slice A t.qp.length c)) g 82 (nd t A t.qp.length c):=by
 have h9:=((((((h.qu 0 (.int .u64 (t.base.1:Int))).qu 1 (.int .u64 (t.base.2:Int))).qu 2 (.int .u64 (t.target.1:Int))).qu 3 (.int .u64 (t.target.2:Int))).qu 4 (.int .i64 t.next)).qu 5 (.int .i64 t.all)).qu 6 (.slice A t.qp.length c);simp only[List.setIfInBounds_toArray,List.set_cons_succ,List.set_cons_zero]at h9;exact h9
theorem nk {W0 W:World}{g:Nat}{v:Value}{t:Tk}(h:Below W0.heap.size W0 W)(hg:W0.heap.size≤g):Below W0.heap.size W0 (qeb W g t v) :=
 ((((((h.setCell (p:=⟨g,0,none⟩) hg _).setCell (p:=⟨g,1,none⟩) hg _).setCell (p:=⟨g,2,none⟩) hg _).setCell (p:=⟨g,3,none⟩) hg _).setCell (p:=⟨g,4,none⟩) hg _).setCell (p:=⟨g,5,none⟩) hg _).setCell (p:=⟨g,6,none⟩) hg _
theorem qlg(W:World)(g:Nat)(v:Value)(t:Tk):ib.qB (fun j=>j=g) W (qeb W g t v) :=
 (((((((ib.qB.refl (fun j=>j=g) W).setCell ⟨g,0,none⟩ _ (.inl rfl)).setCell ⟨g,1,none⟩ _ (.inl rfl)).setCell ⟨g,2,none⟩ _ (.inl rfl)).setCell ⟨g,3,none⟩ _ (.inl rfl)).setCell ⟨g,4,none⟩ _ (.inl rfl)).setCell ⟨g,5,none⟩ _ (.inl rfl)).setCell ⟨g,6,none⟩ _ (.inl rfl)
theorem qxk{W:World}{g:Nat}(t:Tk)(A:Option Addr)(c:Nat)(h:qh W g 82 (nd t A t.qp.length c)):(loadVar 82 ⟨g,0,none⟩).run prog W=.ok (.agg (nd t A t.qp.length c)) W :=
 run_loadVar_row W g 82 82 _ (0,0) _ h underlying82 rfl (by kernel_rfl)
theorem qov{w:World}{A:Option Addr}{l:List Int}(h:ib.qH w A l):qv6 w A l:=fun i hi=>by
 obtain⟨b,o,h1,h2,h3,_⟩:=h i hi;exact⟨b,o,h1,h2,h3⟩
def tz:Array Value:=#[.int .u64 0,.int .u64 0,.int .u64 0,.int .u64 0,.int .i64 0,.int .i64 0,.slice none 0 0]
def qxl (W:World)(g:Nat):World :=
 ((((((W.setCell ⟨g,0,none⟩ (.int .u64 0)).setCell ⟨g,1,none⟩ (.int .u64 0)).setCell ⟨g,2,none⟩ (.int .u64 0)).setCell ⟨g,3,none⟩ (.int .u64 0)).setCell ⟨g,4,none⟩ (.int .i64 0)).setCell ⟨g,5,none⟩ (.int .i64 0)).setCell ⟨g,6,none⟩ (.slice none 0 0)
theorem qbB{W:World}{g:Nat}(h:qh W g 82 tz):qh (qxl W g) g 82 tz:=by
 have h9:=((((((h.qu 0 (.int .u64 0)).qu 1 (.int .u64 0)).qu 2 (.int .u64 0)).qu 3 (.int .u64 0)).qu 4 (.int .i64 0)).qu 5 (.int .i64 0)).qu 6 (.slice none 0 0);simp only[tz,List.setIfInBounds_toArray,List.set_cons_succ,List.set_cons_zero]at h9;exact h9
theorem np {W0 W:World}{g:Nat}(h:Below W0.heap.size W0 W)(hg:W0.heap.size≤g):Below W0.heap.size W0 (qxl W g) :=
 ((((((h.setCell (p:=⟨g,0,none⟩) hg _).setCell (p:=⟨g,1,none⟩) hg _).setCell (p:=⟨g,2,none⟩) hg _).setCell (p:=⟨g,3,none⟩) hg _).setCell (p:=⟨g,4,none⟩) hg _).setCell (p:=⟨g,5,none⟩) hg _).setCell (p:=⟨g,6,none⟩) hg _
theorem qpV{W:World}{g:Nat}(h:qh W g 82 tz):(loadVar 82 ⟨g,0,none⟩).run prog W=.ok (.agg tz) W :=
 run_loadVar_row W g 82 82 _ (0,0) _ h underlying82 rfl (by kernel_rfl)
theorem q1H:tkV (tf yg) none 0 0=.agg tz:=by
 simp only[tkV,tf,yg,tz];simp
theorem bp {w w':World}(hb:Below w.heap.size w w'):aP yg w (.returned (.agg tz)) w' :=
 ⟨none,0,by rw[← q1H];rfl,fun i h=>absurd h (by simp[yg]),ib.ir.none _ _,hb⟩
theorem qec(w:World):Calls prog 41 #[.pointer none] w (aP yg w):=by
 have hb:=(Below.refl _ w).alloc (Nat.le_refl _) (.cells tz 82);have hk:=qh.new w 82 tz;obtain⟨W,hW⟩:=QE (w.alloc (.cells tz 82));rw[hW]at hb hk;have HE:=QH (bp (np hb (Nat.le_refl _)));have HL:=QH (qpV (qbB hk));have q0:=hk.cell 0;have q1:=hk.cell 1;have q2:=hk.cell 2;have q3:=hk.cell 3;have q4:=hk.cell 4;have q5:=hk.cell 5;have q6:=hk.cell 6;have f0:=hk.frozen 0;have f1:=hk.frozen 1;have f2:=hk.frozen 2;have f3:=hk.frozen 3;have f4:=hk.frozen 4;have f5:=hk.frozen 5;have f6:=hk.frozen 6;have fS:=hk.lt;simp only[tz,QA,QB,QC]at q0 q1 q2 q3 q4 q5 q6;unfold tz at hW;clear hb hk;go_enter func41,ntmps41;go_upto_region 1 with fail;try rw[hW]
 clear hW;go_wp2_with fail;exact bodyPost_ret (v:=.agg tz) (im.zx rfl _ _ _ ⟨w.heap.size,0,none⟩ _ rfl HL.out) rfl HE.out
theorem cU {o:Nat→Prop}{w:World}{v pd:Nat}{m:Mt}{l:Bool}(h:gI o w v pd m l):Calls prog 41 #[pt v] w (aP m.tok w):=by
 have hb:=(Below.refl _ w).alloc (Nat.le_refl _) (.cells tz 82);have hk:=qh.new w 82 tz;obtain⟨W,hW⟩:=QE (w.alloc (.cells tz 82));rw[hW]at hb hk;obtain⟨A0,A1,A2,c0,c1,c2,hA0⟩:=h;have hA:=hA0.below hb;have HA:=QH hA;have HK:=QH hk;have HB:=QH hb;have HTN:=QH (qdx (w:=W) (A0:=A0) (A1:=A1) (A2:=A2) (c0:=c0) (c1:=c1) (c2:=c2) m);obtain⟨q,hq⟩:=QE (decide (m.tok.target=(0,0)));rw[hq]at HTN;have HQ:=QH hq;obtain⟨pU,k0,k1,k2,k3,k4,k5,k6,k7,k8,k9,uO⟩:=hA.cells;unfold zw at HTN;unfold tz at hW;clear hb hk hA hA0 hq;go_enter func41,ntmps41;go_upto_region 1 with fail;try rw[hW]
 clear hW;go_wp2_with fail;refine HTN.out.mono ?_;rintro e W1 ⟨rfl,hb1⟩;have qU:=QH (qc HB.out hb1);have zQ:=HK.out.below hb1;have fT:=QH zQ;have cB:=QH (HA.out.below hb1);have oa:Hid (w.heap.size<W.heap.size∧W.heap.size≤W1.heap.size):=⟨HK.out.lt,hb1.size⟩;clear hb1 HTN k0 k1 k2 k3 k4 k5 k6 k7 k8 k9 uO pU HA HK HB;have q0:=zQ.cell 0;have q1:=zQ.cell 1;have q2:=zQ.cell 2;have q3:=zQ.cell 3;have q4:=zQ.cell 4;have q5:=zQ.cell 5;have q6:=zQ.cell 6;have f0:=zQ.frozen 0;have f1:=zQ.frozen 1;have f2:=zQ.frozen 2;have f3:=zQ.frozen 3;have f4:=zQ.frozen 4;have f5:=zQ.frozen 5;have f6:=zQ.frozen 6;have fS:=zQ.lt;simp only[tz,QA,QB,QC]at q0 q1 q2 q3 q4 q5 q6;clear zQ;cases q with
 | true =>
  have xY:=QH (cB.out.tk (of_decide_eq_true HQ.out));have HE:=QH (bp (np qU.out (Nat.le_refl _)));have HL:=QH (qpV (qbB fT.out));go_wp2_with fail;refine bodyPost_ret (v:=.agg tz) (im.zx rfl _ _ _ ⟨w.heap.size,0,none⟩ _ rfl HL.out) rfl ?_;rw[xY.out];exact HE.out
 | false =>
  obtain⟨pU,k0,k1,k2,k3,k4,k5,k6,k7,k8,k9,uO⟩:=cB.out.cells;have hb2:=(Below.refl _ W1).alloc (Nat.le_refl _) (.cells tz 82);have hk2:=qh.new W1 82 tz;obtain⟨W2,hW2⟩:=QE (W1.alloc (.cells tz 82));rw[hW2]at hb2 hk2;have hb3:=nk (v:=.slice A2 m.tok.qp.length c2) (t:=m.tok) hb2 (Nat.le_refl _);have hk3:=qbA m.tok A2 c2 hk2;have s0:=hk2.cell 0;have s1:=hk2.cell 1;have s2:=hk2.cell 2;have s3:=hk2.cell 3;have s4:=hk2.cell 4;have s5:=hk2.cell 5;have s6:=hk2.cell 6;have g0:=hk2.frozen 0;have g1:=hk2.frozen 1;have g2:=hk2.frozen 2;have g3:=hk2.frozen 3;have g4:=hk2.frozen 4;have g5:=hk2.frozen 5;have g6:=hk2.frozen 6;have dG:=hk2.lt;simp only[tz,QA,QB,QC]at s0 s1 s2 s3 s4 s5 s6;have zG:=QH (qc qU.out hb3);have og:=QH hk3;have cV:=QH (fT.out.below hb3);have HI3:=QH (cB.out.tab.qp.at_.below hb3);have HIM:=QH cB.out.sz.qp;have rQ:Hid (w.heap.size<W1.heap.size∧W1.heap.size<(qeb W2 W1.heap.size m.tok (.slice A2 m.tok.qp.length c2)).heap.size):=⟨fT.out.lt,hk3.lt⟩;unfold tz at hW2;clear hb2 hk2 hb3 hk3;go_upto_region 4 with fail;try rw[hW2]
  show Code.wp _ _ _ _ (qeb W2 W1.heap.size m.tok (.slice A2 m.tok.qp.length c2));obtain⟨W3,hW3⟩:=QE (qeb W2 W1.heap.size m.tok (.slice A2 m.tok.qp.length c2));rw[hW3]at zG og cV HI3 rQ ⊢;clear hW3 hW2 s0 s1 s2 s3 s4 s5 s6 g0 g1 g2 g3 g4 g5 g6 dG q0 q1 q2 q3 q4 q5 q6 f0 f1 f2 f3 f4 f5 f6 fS k0 k1 k2 k3 k4 k5 k6 k7 k8 k9 uO pU;have HC:=QH (vR A2 c2 m.tok.qp W3 HI3.out HIM.out);have q6:=og.out.cell 6;have fS:=og.out.lt;simp only[nd,QA,QB,QC]at q6;go_wp2_with fail;refine HC.out.mono ?_;rintro e W4 fR;obtain rfl:=fR.1;have hb4:=fR.2.2;have hs4:=fR.sl HI3.out.ints.mem (fun j=>j=W3.heap.size) rfl;have hk4:=og.out.below hb4;have hr4:=cV.out.below hb4;have hl4:=rQ.out;have hz4:=hb4.size;have HK5:Hid (qh (W4.setCell ⟨W1.heap.size,6,none⟩ (.slice (some ⟨W3.heap.size,0,none⟩) m.tok.qp.length m.tok.qp.length)) W1.heap.size 82 (nd m.tok (some ⟨W3.heap.size,0,none⟩) m.tok.qp.length m.tok.qp.length)):=by
   have:=hk4.qu 6 (.slice (some ⟨W3.heap.size,0,none⟩) m.tok.qp.length m.tok.qp.length);simpa[Hid,nd]using this
  have uN:Hid (qh (W4.setCell ⟨W1.heap.size,6,none⟩ (.slice (some ⟨W3.heap.size,0,none⟩) m.tok.qp.length m.tok.qp.length)) w.heap.size 82 tz):=hr4.of_block (qw _ _ _ _ _ (by omega));have jU:Hid (Below w.heap.size w (W4.setCell ⟨W1.heap.size,6,none⟩ (.slice (some ⟨W3.heap.size,0,none⟩) m.tok.qp.length m.tok.qp.length))):=(qc zG.out hb4).setCell (p:=⟨W1.heap.size,6,none⟩) (by show w.heap.size≤W1.heap.size;omega) _;have iz:Hid (dN (fun j=>j=W3.heap.size) (W4.setCell ⟨W1.heap.size,6,none⟩ (.slice (some ⟨W3.heap.size,0,none⟩) m.tok.qp.length m.tok.qp.length)) (some ⟨W3.heap.size,0,none⟩) m.tok.qp m.tok.qp.length):=hs4.stay (gJ fun j hj=>by omega);have k6:=hk4.cell 6;have f6:=hk4.frozen 6;have jQ:=hk4.lt;simp only[nd,QA,QB,QC]at k6;have qxm:Hid (W3.heap.size<(W4.setCell ⟨W1.heap.size,6,none⟩ (.slice (some ⟨W3.heap.size,0,none⟩) m.tok.qp.length m.tok.qp.length)).heap.size):=by
   have:=fR.2.1.lt;simpa[Hid,World.setCell]using this
  obtain⟨W5,cG⟩:=QE (W4.setCell ⟨W1.heap.size,6,none⟩ (.slice (some ⟨W3.heap.size,0,none⟩) m.tok.qp.length m.tok.qp.length));rw[cG]at HK5 uN jU iz qxm;clear fR hb4 hs4 hk4 hr4 hl4 hz4 HC q6 fS;go_upto_region 5 with fail;try rw[cG]
  clear cG k6 f6 jQ;have j0:=HK5.out.cell 0;have j1:=HK5.out.cell 1;have j2:=HK5.out.cell 2;have j3:=HK5.out.cell 3;have j4:=HK5.out.cell 4;have j5:=HK5.out.cell 5;have j6:=HK5.out.cell 6;have jlt:=HK5.out.lt;simp only[nd,QA,QB,QC]at j0 j1 j2 j3 j4 j5 j6;have q0:=uN.out.cell 0;have q1:=uN.out.cell 1;have q2:=uN.out.cell 2;have q3:=uN.out.cell 3;have q4:=uN.out.cell 4;have q5:=uN.out.cell 5;have q6:=uN.out.cell 6;have f0:=uN.out.frozen 0;have f1:=uN.out.frozen 1;have f2:=uN.out.frozen 2;have f3:=uN.out.frozen 3;have f4:=uN.out.frozen 4;have f5:=uN.out.frozen 5;have f6:=uN.out.frozen 6;have fS:=uN.out.lt;simp only[tz,QA,QB,QC]at q0 q1 q2 q3 q4 q5 q6;have wG:=nk (v:=.slice (some ⟨W3.heap.size,0,none⟩) m.tok.qp.length m.tok.qp.length) (t:=m.tok) jU.out (Nat.le_refl _);have HL:=QH (qxk m.tok (some ⟨W3.heap.size,0,none⟩) m.tok.qp.length (qbA m.tok (some ⟨W3.heap.size,0,none⟩) m.tok.qp.length uN.out));have HE:Hid (aP m.tok w (.returned (.agg (nd m.tok (some ⟨W3.heap.size,0,none⟩) m.tok.qp.length m.tok.qp.length))) (qeb W5 w.heap.size m.tok (.slice (some ⟨W3.heap.size,0,none⟩) m.tok.qp.length m.tok.qp.length))):=by
   have hbt:=qlg W5 w.heap.size (.slice (some ⟨W3.heap.size,0,none⟩) m.tok.qp.length m.tok.qp.length) m.tok;have hs6:=iz.out.stay (vq.ld hbt (fun j hj=>by have:=rQ.out;show ¬ j=w.heap.size;omega));refine⟨some ⟨W3.heap.size,0,none⟩,m.tok.qp.length,rfl,qov hs6.at_.ints,fun b o e=>?_,wG⟩;simp only[Option.some.injEq,Addr.mk.injEq,and_true]at e;have h1:=rQ.out;have h2:=iz.out;have h3:=hbt.size;refine⟨by omega,?_⟩;have:=qxm.out;omega
  clear wG;go_wp2_with fail;exact bodyPost_ret (v:=.agg (nd m.tok (some ⟨W3.heap.size,0,none⟩) m.tok.qp.length m.tok.qp.length)) (im.zx rfl _ _ _ ⟨w.heap.size,0,none⟩ _ rfl HL.out) rfl HE.out
end Go.Proofs.YtdpbdkacngaemaaGreatDoor.vt.pg
namespace Go.Proofs.YtdpbdkacngaemaaGreatDoor
open _root_.Go.Proofs.Tryz Go Go.RowKit
end Go.Proofs.YtdpbdkacngaemaaGreatDoor
namespace Go.Proofs.YtdpbdkacngaemaaGreatDoor.jr
open _root_.Go.Proofs.Tryz Go Go.RowKit dk wi
structure qxn where
 at_:Int
 c:UInt8
 short:Bool
def tC (w:World)(a:Option Addr)(zs:List qxn):Prop :=
 ∀i (h:i<zs.length),∃b o,a=some ⟨b,o,none⟩∧b<w.heap.size∧w.cell? ⟨b,o+i*3,none⟩=some (.int .i64 zs[i].at_)∧w.cell? ⟨b,o+i*3+1,none⟩=some (.int .u8 (zs[i].c.toNat:Int))∧w.cell? ⟨b,o+i*3+2,none⟩=some (.bool zs[i].short)∧qA zs[i].at_
theorem qhs(n:Nat)(k:Int):dk.look (List.replicate n none) k=none:=by
 unfold dk.look;split
 ·rw[List.getElem?_replicate];split <;> rfl
 ·rfl
theorem JJ.n{tgt:Int→Bt}{d:DD}(h:JJ 200 tgt d):d.n=200:=h.rb.1
theorem JJ.now{tgt:Int→Bt}{d:DD}(h:JJ 200 tgt d):d.now=d.base:=by unfold DD.now;rw[h.more];rfl
theorem JJ.read{tgt:Int→Bt}{d:DD}(h:JJ 200 tgt d)(k:Int)(h0:145≤k)(h1:k<200):d.read k=(tgt k,0):=by
 unfold DD.read;have:d.has k=true:=by
  unfold DD.has;rw[h.n];simp;omega
 rw[if_neg (by rw[h.on];simp),if_neg (by rw[this];simp),h.now];exact congrArg (fun x=>(x,(0:Int))) (h.is k h0)
section
variable {w:World} {B p:Nat} {d:DD}
end
end Go.Proofs.YtdpbdkacngaemaaGreatDoor.jr
namespace Go.Proofs.YtdpbdkacngaemaaGreatDoor.jr
open _root_.Go.Proofs.Tryz Go Go.RowKit dk wi
theorem RJ.n{tgt:Int→Bt}{d:DD}(h:RJ 200 tgt d):d.n=200:=h.rb.1
section
variable {w:World} {G:Nat→Prop} {p:Nat} {d:DD}
end
theorem fY.block{w:World}{B:Nat}{A:Option Addr}{n c:Nat}{l:List Wr}(h:fY w B (.slice A n c) l):∀b o,A=some ⟨b,o,none⟩→B≤b∧b<w.heap.size:=by
 intro b o hA;subst hA;rcases h.2 with⟨hv,_⟩|⟨g,cap,cur,hv,hg,hh,_⟩
 ·cases hv
 ·simp only[Value.slice.injEq,Option.some.injEq,Addr.mk.injEq]at hv;obtain⟨⟨rfl,_⟩,_⟩:=hv;exact⟨hg,(Array.getElem?_eq_some_iff.1 hh).1⟩
theorem tC.below{w w':World}{a:Option Addr}{zs:List qxn}(h:tC w a zs)(hb:Below w.heap.size w w'):tC w' a zs:=by
 intro i hi;obtain⟨b,o,h1,h2,h3,h4,h5,h6⟩:=h i hi;refine⟨b,o,h1,Nat.lt_of_lt_of_le h2 hb.size,?_,?_,?_,h6⟩
 ·rw[hb.cell (p:=⟨b,o+i*3,none⟩) h2];exact h3
 ·rw[hb.cell (p:=⟨b,o+i*3+1,none⟩) h2];exact h4
 ·rw[hb.cell (p:=⟨b,o+i*3+2,none⟩) h2];exact h5
end Go.Proofs.YtdpbdkacngaemaaGreatDoor.jr
namespace Go.Proofs.YtdpbdkacngaemaaGreatDoor.jr
open _root_.Go.Proofs.Tryz Go Go.RowKit dk wi
def Rest (d:DD):Prop:=d.n=200∧d.more=[]
theorem JJ.rest{tgt:Int→Bt}{d:DD}(h:JJ 200 tgt d):Rest d:=⟨h.n,h.more⟩
theorem RJ.rest{tgt:Int→Bt}{d:DD}(h:RJ 200 tgt d):Rest d:=⟨h.n,h.more⟩
end Go.Proofs.YtdpbdkacngaemaaGreatDoor.jr
namespace Go.Proofs.YtdpbdkacngaemaaGreatDoor.jr
open _root_.Go.Proofs.Tryz dk wi
def kb0:DD:=DD.new 400 400
def kb1:DD:=(jG kb0).2
end Go.Proofs.YtdpbdkacngaemaaGreatDoor.jr
namespace Go.Proofs.YtdpbdkacngaemaaGreatDoor.jr
open _root_.Go.Proofs.Tryz Go Go.RowKit dk wi
section
variable {most:Nat} {w:World} {B p:Nat} {d:DD}
end
end Go.Proofs.YtdpbdkacngaemaaGreatDoor.jr
namespace Go.Proofs.YtdpbdkacngaemaaGreatDoor.vt.pg
open _root_.Go.Proofs.Tryz Go Go.RowKit Go.Sort ib mt im sp
theorem nr {W:World}{g:Nat}{v0 v1 v2 u0 u1 u2:Value}{t t':Tk}{ty:TypeId}(h:qh W g ty (mC u0 u1 u2 t')):qh (xC W g v0 v1 v2 t) g ty (mC v0 v1 v2 t):=by
 have h9:=((((((((h.qu 0 v0).qu 1 v1).qu 2 (.int .u64 (t.base.1:Int))).qu 3 (.int .u64 (t.base.2:Int))).qu 4 (.int .u64 (t.target.1:Int))).qu 5 (.int .u64 (t.target.2:Int))).qu 6 (.int .i64 t.next)).qu 7 (.int .i64 t.all)).qu 8 v2;simp only[mC,List.setIfInBounds_toArray,List.set_cons_succ,List.set_cons_zero]at h9;exact h9
theorem qow{W:World}{g:Nat}{v0 v1 v2:Value}{t:Tk}(h:qh W g 96 (mC v0 v1 v2 t)):(loadVar 96 ⟨g,0,none⟩).run prog W=.ok (.agg (mC v0 v1 v2 t)) W :=
 run_loadVar_row W g 96 96 _ (0,0) _ h underlying96 rfl (by kernel_rfl)
theorem qbC{w:World}(A0 A1 A2:Option Addr)(n0 n1 n2 c0 c1 c2:Nat)(t:Tk):Calls prog 54 #[.agg (mC (.slice A0 n0 c0) (.slice A1 n1 c1) (.slice A2 n2 c2) t)] w fun e w'=>e=.returned (.agg (mC (.slice A0 n0 c0) (.slice A1 n1 c1) (.slice A2 n2 c2) t))∧Below w.heap.size w w':=by
 have hb1:=(Below.refl _ w).alloc (Nat.le_refl _) (.cells (mC (.slice A0 n0 c0) (.slice A1 n1 c1) (.slice A2 n2 c2) t) 103);have zQ:=qh.new w 103 (mC (.slice A0 n0 c0) (.slice A1 n1 c1) (.slice A2 n2 c2) t);obtain⟨W1,hW1⟩:=QE (w.alloc (.cells (mC (.slice A0 n0 c0) (.slice A1 n1 c1) (.slice A2 n2 c2) t) 103));rw[hW1]at hb1 zQ;have hb2:=(Below.refl _ W1).alloc (Nat.le_refl _) (.cells (mt.pg.mZ (.slice none 0 0) (.slice none 0 0)) 96);have hk2:=qh.new W1 96 (mt.pg.mZ (.slice none 0 0) (.slice none 0 0));obtain⟨W2,hW2⟩:=QE (W1.alloc (.cells (mt.pg.mZ (.slice none 0 0) (.slice none 0 0)) 96));rw[hW2]at hb2 hk2;have nu:=zQ.below hb2;have m0:=nu.cell 0;have m1:=nu.cell 1;have m2:=nu.cell 2;have m3:=nu.cell 3;have m4:=nu.cell 4;have m5:=nu.cell 5;have m6:=nu.cell 6;have m7:=nu.cell 7;have m8:=nu.cell 8;have hml:=nu.lt;have a0:=hk2.cell 0;have a1:=hk2.cell 1;have a2:=hk2.cell 2;have a3:=hk2.cell 3;have a4:=hk2.cell 4;have a5:=hk2.cell 5;have a6:=hk2.cell 6;have a7:=hk2.cell 7;have a8:=hk2.cell 8;have f0:=hk2.frozen 0;have f1:=hk2.frozen 1;have f2:=hk2.frozen 2;have f3:=hk2.frozen 3;have f4:=hk2.frozen 4;have f5:=hk2.frozen 5;have f6:=hk2.frozen 6;have f7:=hk2.frozen 7;have f8:=hk2.frozen 8;have fF:=hk2.lt;simp only[mC,mt.pg.mZ,QA,QB,QC]at m0 m1 m2 m3 m4 m5 m6 m7 m8 a0 a1 a2 a3 a4 a5 a6 a7 a8;have hres:qh W2 W1.heap.size 96 (mC aq aq aq yg):=hk2;have HF:Hid (qh (xC W2 W1.heap.size (.slice A0 n0 c0) (.slice A1 n1 c1) (.slice A2 n2 c2) t) W1.heap.size 96 (mC (.slice A0 n0 c0) (.slice A1 n1 c1) (.slice A2 n2 c2) t)∧Below w.heap.size w (xC W2 W1.heap.size (.slice A0 n0 c0) (.slice A1 n1 c1) (.slice A2 n2 c2) t)) :=
  ⟨nr hres,wS (qc hb1 hb2) (by have:=zQ.lt;omega)⟩
 unfold mC at hW1 ⊢;unfold mt.pg.mZ at hW2;clear hb1 zQ hb2 hk2 nu hres;go_enter func54,ntmps54;go_upto_region 1 with fail;try rw[hW1]
 try rw[hW2]
 clear hW1 hW2;go_wp2_with fail;show bodyPost _ _ _ _ _ (xC W2 W1.heap.size (.slice A0 n0 c0) (.slice A1 n1 c1) (.slice A2 n2 c2) t);have hf:=HF.out;obtain⟨WE,hWE⟩:=QE (xC W2 W1.heap.size (.slice A0 n0 c0) (.slice A1 n1 c1) (.slice A2 n2 c2) t);rw[hWE]at hf ⊢;exact bodyPost_ret (v:=.agg (mC (.slice A0 n0 c0) (.slice A1 n1 c1) (.slice A2 n2 c2) t)) (im.zx rfl _ _ _ ⟨W1.heap.size,0,none⟩ _ rfl (qow hf.1)) rfl ⟨rfl,hf.2⟩
theorem qlh{b N:Nat}{m:Mt}(h:jm b N m)(h0:m.tok.target=(0,0)):m.tok=yg:=by
 rcases h.tok with ht|ht
 ·exact ht
 ·exfalso;have e2:=ht.2.1;rw[h0]at e2;unfold mt.above at e2;simp at e2
theorem qbD{o:Nat→Prop}{w:World}{pd N b:Nat}{d:DD}{t:Tg}{m:Mt}(h:dk.zH 1000 w o pd d)(cH:xK w)(hog:¬ o gN)(hJ:jr.RJ N t d)(hf:d.qz=0)(hR:yz b N t m) :
    Calls prog 11 #[pt pd] w fun e w'=>∃v d' ov eG,e=.returned (.tuple #[pt v,.int .i64 0])∧VP gI w' ov eG v pd d' m false∧jr.JJ N t d'∧d'.qz=0∧ib.qB o w w'∧(∀j,ov j→w.heap.size≤j)∧∀j,eG j→o j∨w.heap.size≤j:=by
 have hdn:d.n=N:=hJ.rb.1;have qpW:145<d.n:=by rw[hdn];have:=hR.N0;omega
 have HRC:=QH (jr.oB jr.qkR h qpW cH (by rw[hJ.more];decide) (by decide));have HRA:Hid ((jr.zX d).1=0∧jr.JJ N t (jr.zX d).2∧(jr.zX d).2.qz=0):=by
  rcases jr.qaS hJ (by omega)with⟨h1,h2,h3,_⟩|⟨_,_,h3,_⟩
  ·exact⟨h1,h2,h3 hf⟩
  ·exact absurd hf h3
 obtain⟨RC,hRC⟩:=QE (jr.zX d);rw[hRC]at HRC HRA;obtain⟨r,d1⟩:=RC;have hr0:r=0:=HRA.out.1;subst hr0;have dX:=QH cH;have HOG:=QH hog;have HR:=QH hR;clear h hJ hf hR hRC hdn qpW cH hog;go_enter func11,ntmps11;go_wp2_with fail;refine HRC.out.mono ?_;rintro e W1 ⟨rfl,o2,hd1,hb1,hg1⟩;have HD1:=QH hd1;have qU:Hid (ib.qB o w W1):=sG hb1;have HG1:Hid (∀j,o2 j→o j∨w.heap.size≤j):=hg1;have qht:xK W1:=vn dX.out qU.out.size (qU.out.block gN (xx dX.out) HOG.out);have qxp:=QH qht;have hR:=HR.out;have htx:=qdF hd1 qht HRA.out.2.1 hR.N0 (u:=zq m) (by have:=hR.ok.size hR.N1;omega) (xJ hR.ok hR.N1).2 hR.home;have HTX:=QH htx;clear hd1 hb1 hg1 qht htx HRC;go_wp2_with fail;refine HTX.out.mono ?_;rintro e W2 ⟨rfl,hb2⟩;have qG:=QH hb2;have hdc:=qn2 (str (zq m)) W2 (by rw[qO];have:=hR.ok.size hR.N1;omega) m (by rw[zn];exact hR.ok.back hR.N1);have HDC:=QH hdc;obtain⟨S,hS⟩:=QE (str (zq m));rw[hS]at HDC ⊢;clear hb2 hdc hS HTX hR;go_wp2_with fail;refine HDC.out.mono ?_;rintro e W3 ⟨A0,A1,A2,c0,c1,c2,rfl,hT,hb3⟩;have oX:=QH hT.bound;have zG:=QH hb3;have hb4:=(Below.refl _ W3).alloc (Nat.le_refl _) (.cells (mt.pg.mZ (.slice none 0 0) (.slice none 0 0)) 103);have hk4:=qh.new W3 103 (mt.pg.mZ (.slice none 0 0) (.slice none 0 0));obtain⟨W4,tP⟩:=QE (W3.alloc (.cells (mt.pg.mZ (.slice none 0 0) (.slice none 0 0)) 103));rw[tP]at hb4 hk4;have a0:=hk4.cell 0;have a1:=hk4.cell 1;have a2:=hk4.cell 2;have a3:=hk4.cell 3;have a4:=hk4.cell 4;have a5:=hk4.cell 5;have a6:=hk4.cell 6;have a7:=hk4.cell 7;have a8:=hk4.cell 8;have f0:=hk4.frozen 0;have f1:=hk4.frozen 1;have f2:=hk4.frozen 2;have f3:=hk4.frozen 3;have f4:=hk4.frozen 4;have f5:=hk4.frozen 5;have f6:=hk4.frozen 6;have f7:=hk4.frozen 7;have f8:=hk4.frozen 8;have fF:=hk4.lt;simp only[mt.pg.mZ,QA,QB,QC]at a0 a1 a2 a3 a4 a5 a6 a7 a8;have hres:qh W4 W3.heap.size 103 (mC aq aq aq yg):=hk4;have HF:Hid (qh (xC W4 W3.heap.size (.slice A0 m.live.length c0) (.slice A1 m.qd.length c1) (.slice A2 m.tok.qp.length c2) m.tok) W3.heap.size 103 (mC (.slice A0 m.live.length c0) (.slice A1 m.qd.length c1) (.slice A2 m.tok.qp.length c2) m.tok)∧Below W3.heap.size W3 (xC W4 W3.heap.size (.slice A0 m.live.length c0) (.slice A1 m.qd.length c1) (.slice A2 m.tok.qp.length c2) m.tok)) :=
  ⟨nr hres,wS hb4 (Nat.le_refl _)⟩
 unfold mt.pg.mZ at tP;unfold zw;clear hb3 hT hb4 hk4 hres HDC;go_upto_region 8 with fail;try rw[tP]
 show Code.wp _ _ _ _ (xC W4 W3.heap.size (.slice A0 m.live.length c0) (.slice A1 m.qd.length c1) (.slice A2 m.tok.qp.length c2) m.tok);obtain⟨W5,cG⟩:=QE (xC W4 W3.heap.size (.slice A0 m.live.length c0) (.slice A1 m.qd.length c1) (.slice A2 m.tok.qp.length c2) m.tok);rw[cG]at HF ⊢;clear tP cG a0 a1 a2 a3 a4 a5 a6 a7 a8 f0 f1 f2 f3 f4 f5 f6 f7 f8 fF;have hblk:=HF.out.1;have b35:=HF.out.2;have qhu:=QH (qc (qc qG.out zG.out) b35);have lp:=QH (oX.out.below b35);have HD5:=QH (HD1.out.below qhu.out);have k0:=hblk.cell 0;have k1:=hblk.cell 1;have k2:=hblk.cell 2;have k3:=hblk.cell 3;have k4:=hblk.cell 4;have k5:=hblk.cell 5;have k6:=hblk.cell 6;have k7:=hblk.cell 7;have k8:=hblk.cell 8;have pU:=hblk.lt;simp only[mC,QA,QB,QC]at k0 k1 k2 k3 k4 k5 k6 k7 k8;have e0:=fun d os=>cell_regrown k0 d os;have e1:=fun d os=>cell_regrown k1 d os;have e2:=fun d os=>cell_regrown k2 d os;have e3:=fun d os=>cell_regrown k3 d os;have e4:=fun d os=>cell_regrown k4 d os;have e5:=fun d os=>cell_regrown k5 d os;have e6:=fun d os=>cell_regrown k6 d os;have e7:=fun d os=>cell_regrown k7 d os;have e8:=fun d os=>cell_regrown k8 d os;have hR:=HR.out;have hlen:m.live.length=b:=hR.ok.len;have hdn:d1.n=N:=HRA.out.2.1.rb.1;have cL:∀b os,Calls prog 43 #[pt pd] (grow (redrawn W5 b) os) fun e w''=>e=.returned (.int .i64 (N:Int))∧∃q:Regrown,w''=grow (redrawn W5 q.d) q.os :=
  fun b os=>Calls.regrown_of ((mO (HD5.out.below (below_regrown W5 b os))).mono fun e w' hx=>⟨by rw[← hdn];exact hx.1,by rw[← hx.2];exact Below.refl _ _⟩)
 have cC:∀b os,Calls prog 53 #[.agg (zw A0 A1 A2 c0 c1 c2 m),.int .i64 (m.live.length:Int),.int .i64 (N:Int)] (grow (redrawn W5 b) os) fun e w''=>e=.returned (.int .i64 0)∧∃q:Regrown,w''=grow (redrawn W5 q.d) q.os :=
  fun b os=>by
   have hc:=mt.pg.dv (.agg (zw A0 A1 A2 c0 c1 c2 m)) m (m.live.length:Int) (N:Int) (grow (redrawn W5 b) os) ⟨A0,A1,A2,c0,c1,c2,rfl,(lp.out.below (below_regrown W5 b os)).mt⟩ (iQ hR.ok) (by unfold qA;have:=hR.ok.b8;omega) (by unfold qA;have:=hR.N1;omega);have h0:xf m (m.live.length:Int) (N:Int)=0:=by rw[hlen];exact hR.ok.check
   rw[h0]at hc;exact Calls.regrown_of hc
 have qxq:=QH hblk;unfold zw at cC;clear hblk b35 hlen hdn hR;refine wp_region_quiet_below eV (by kernel_rfl) ?_;repeat (any_goals (first|go_big_quiet_step (first|exact cL _ _|exact cC _ _)|quiet_step (first|exact cL _ _|exact cC _ _)))
 refine wpQuiet_nil ?_;intro _ hw';obtain⟨⟨dq,osq⟩,hw''⟩:=hw';subst hw'';have wG:=below_regrown W5 dq osq;have dJ:=QH wG;have hblk:=qxq.out.below wG;clear wG e0 e1 e2 e3 e4 e5 e6 e7 e8 k0 k1 k2 k3 k4 k5 k6 k7 k8 pU cL cC qxq;generalize grow (redrawn W5 dq) osq=W6 at *;have k0:=hblk.cell 0;have k1:=hblk.cell 1;have k2:=hblk.cell 2;have k3:=hblk.cell 3;have k4:=hblk.cell 4;have k5:=hblk.cell 5;have k6:=hblk.cell 6;have k7:=hblk.cell 7;have k8:=hblk.cell 8;have pU:=hblk.lt;simp only[mC,QA,QB,QC]at k0 k1 k2 k3 k4 k5 k6 k7 k8;have HTO:=QH (qbC (w:=W6) A0 A1 A2 m.live.length m.qd.length m.tok.qp.length c0 c1 c2 m.tok);unfold mC at HTO;clear hblk;go_wp2_with fail;refine HTO.out.mono ?_;rintro e W7 ⟨rfl,hb7⟩;have HB7:=QH (qc dJ.out hb7);have hb8:=(Below.refl _ W7).alloc (Nat.le_refl _) (.cells (vC A0 A1 A2 c0 c1 c2 m pd false) 115);have hk8:=qh.new W7 115 (vC A0 A1 A2 c0 c1 c2 m pd false);obtain⟨W8,nJ⟩:=QE (W7.alloc (.cells (vC A0 A1 A2 c0 c1 c2 m pd false) 115));rw[nJ]at hb8 hk8;have HB8:=QH (qc HB7.out hb8);have qhv:=QH (qc qhu.out HB8.out);have HK8:=QH hk8;have po:Hid (W1.heap.size≤W2.heap.size∧W2.heap.size≤W3.heap.size∧W3.heap.size≤W5.heap.size∧W5.heap.size≤W7.heap.size∧W7.heap.size<W8.heap.size):=⟨qG.out.size,zG.out.size,HF.out.2.size,HB7.out.size,hk8.lt⟩;unfold vC at nJ;clear hb7 hb8 hk8 HTO k0 k1 k2 k3 k4 k5 k6 k7 k8 pU;go_wp2_with fail;try rw[nJ]
 clear nJ;go_ret2;have hR:=HR.out;have hsz:=po.out;have h1s:=qU.out.size;have xm:∀j,o2 j→j<W1.heap.size:=fun j hj=>eH HD1.out j hj;have hgn:gN<w.heap.size:=xx dX.out;have hg2:¬ o2 gN:=fun h=>by
  rcases HG1.out gN h with h|h
  ·exact HOG.out h
  ·omega
 refine⟨W7.heap.size,d1,fun j=>w.heap.size≤j∧j<W8.heap.size∧¬ o2 j,o2,rfl,⟨⟨A0,A1,A2,c0,c1,c2,HK8.out,?_,iQ hR.ok,yA qxp.out qhv.out (xx qxp.out),⟨by omega,by omega,fun h=>by have:=xm _ h;omega⟩,fun j hj=>hj.2.1,by omega,qlh hR.ok⟩,HD1.out.below qhv.out,fun j hj=>?_⟩,HRA.out.2.1,HRA.out.2.2,?_,fun j hj=>hj.1,fun j hj=>HG1.out j hj⟩
 ·refine(oX.out.below HF.out.2).mono (G':=fun j=>(w.heap.size≤j∧j<W8.heap.size∧¬ o2 j)∧j≠W7.heap.size) (fun j hj=>⟨⟨by omega,by omega,fun h=>by have:=xm _ h;omega⟩,by omega⟩) |>.below HB8.out
 ·rcases hj with hj|hj
  ·exact hj.2.2
  ·rw[hj];exact hg2
 ·exact qU.out.trans (S':=fun _=>False) (ib.qB.of_below qhv.out) (fun _ h=>h.elim)
end Go.Proofs.YtdpbdkacngaemaaGreatDoor.vt.pg
namespace Go.Proofs.YtdpbdkacngaemaaGreatDoor.dk
open _root_.Go.Proofs.Tryz Go Go.RowKit
theorem tD {P:Program}{ρ:Operand→Value}{o:Oper}{w w':World}{vx vy v':Value}{t:TypeId}(x y:Operand)(ho:o.op=.call { callee:=.builtin .append,args:=#[x,y],argTypes:=#[t,t] })(ht:o.type=t)(hx:ρ x=vx)(hy:ρ y=vy)
    (hrun:(Builtin.append_ #[t,t] t #[vx,vy]).run P w=.ok v' w'):(execOp ρ o).run P w=.ok (.value v') w':=by
 simp[execOp,ho,resolve,invoke,builtin,hx,hy,ht,hrun,Result.andThen]
theorem xc.twin{w w':World}{m n:Nat}{s:qE}(h:xc w m s):∃es clock,w.heap[m]?=some (.map es clock)∧∀(w':World) (n:Nat),w'.heap[n]?=some (.map es clock)→xc w' n s:=by
 obtain⟨D,⟨es,clock,h1,h2⟩,h3⟩:=h;exact⟨es,clock,h1,fun w' n hn=>⟨D,⟨es,clock,hn,h2⟩,h3⟩⟩
theorem qed(b:Nat)(es:Array MapEntry)(clock:Nat)(w:World)(hb:w.heap[b]?=some (.map es clock)) :
    Calls prog 104 #[.map (some b)] w fun e w'=>e=.returned (.map (some w.heap.size))∧w'=w.alloc (.map es clock):=by
 have hq:=fun w=>run_eql_map_nil_sl (P:=prog) w 85 _ _ (some b) underlying85;go_enter func104,ntmps104;go_wp2;rw[run_callFunc_extern func184 (by kernel_rfl) (by kernel_rfl) (by kernel_rfl) (e:=Extern.MapsClone.clone) (by kernel_rfl),run_maps_clone_sl w 85 hb];simp only[Result.andThen];rw[Oper.upon_value];go_wp2;rw[run_typeAssert_map_sl _ 85 _ _ _ _ underlying85];simp only[Result.andThen];rw[Oper.upon_value];go_wp2;go_ret;exact⟨rfl,rfl⟩
theorem qbE{ρ:Operand→Value}{o:Oper}{w:World}(ho:o.op=.buildSlice 86 0 #[]) :
    (execOp ρ o).run prog w=.ok (.value (.slice (some ⟨w.heap.size,0,none⟩) 0 0)) (w.alloc (.cells #[] 148)):=by
 unfold execOp;rw[ho];go_simp
theorem qff(w:World)(a:Option Addr)(n c:Nat):(binOp .eql 86 (.slice a n c) (.slice none 0 0)).run prog w=.ok (.bool a.isNone) w:=by
 simp only[binOp];simp[run_equal_slice_nil _ _ _ _ _ _ underlying86]
def qee (n:Nat)(xs:List Value)(w:World)(e:Ending)(w':World):Prop:=∃v',e=.returned v'∧w'.ownsRow w.heap.size 148 66 v' n xs∧Below w.heap.size w w'
theorem qef(w:World)(v:Value)(n:Nat)(xs:List Value)(h:w.ownsRow 0 148 66 v n xs)(h1:∀u∈xs,u.oneCell'=true)(hn:n≤100000) :
    Calls prog 105 #[v] w (qee n xs w):=by
 have hown:=h;rcases h.2 with⟨rfl,h0⟩|⟨g,cap,cur,rfl,hg,hh,hc,hm,hcs,yb⟩
 ·subst h0;have hx:xs=[]:=by have:=h.1;simpa using this
  subst hx;have hq:=fun w=>qff w none 0 0;clear hown h;go_enter func105,ntmps105;go_wp2_with fail;go_ret;exact⟨_,rfl,World.ownsRow_nil _ _ _ _,Below.refl _ _⟩
 ·obtain⟨i0,hi,hz0,hz1,hz2⟩:=info_parts qcT;have hcell:∀(j:Nat) (u:Value),xs[j]?=some u→(w.alloc (.cells #[] 148)).cell? ((⟨g,0,none⟩:Addr).add j)=some u:=by
   intro j u hu;rw[addr_add,Nat.zero_add];have hj:j<xs.length:=(List.getElem?_eq_some_iff.1 hu).1;have:=World.ownsRow.cellAt hown j (by rw[← hown.1];exact hj);rw[World.cell?_of_block (a:=⟨g,j,none⟩) (Below.heap_alloc w _ g (Array.getElem?_eq_some_iff.1 hh).1),this];exact hu
  obtain⟨v',w',hrun,h2,h3,_⟩:=run_append_own (P:=prog) (w.alloc (.cells #[] 148)) w.heap.size 86 86 148 i0 _ 66 80 underlying86 hi hz0 hz1 hz2 (by simp[Value.cells,yv,zh]) (by decide) (.slice (some ⟨w.heap.size,0,none⟩) 0 0) 0 [] (World.ownsRow_made w #[] 0 (Nat.le_refl _) (by decide) rfl) ⟨g,0,none⟩ n cap xs h.1 hcell h1 (by unfold maxLen;omega) (by omega) (by simp);rw[Nat.zero_add,List.nil_append]at h2;have HR:=QH hrun;have H2:=QH h2;have H3:=QH h3;clear hown h hcell h1 hrun h2 h3 hi hz0 hz1 hz2 hcs yb hh;have hq:=fun w=>qff w (some ⟨g,0,none⟩) n cap;go_enter func105,ntmps105;go_wp2_with (first|(refine qx rfl (qbE rfl) ?_)|(refine qx rfl (tD (.tmp 5) (.tmp 6) rfl rfl rfl rfl HR.out) ?_));go_ret;refine⟨_,rfl,H2.out,?_⟩;have hb:Below w.heap.size w (w.alloc (.cells #[] 148)):=(Below.refl _ _).alloc (Nat.le_refl _) _;exact hb.grown H3.out hb.size (fun k hk=>by simp[Value.ownBlock]at hk;omega)
theorem qso:(prog.info? 88).map (·.size)=some 6:=by kernel_rfl
def qeg (most:Nat)(d:DD)(w:World)(e:Ending)(w':World):Prop :=
 ∃q own,e=.returned (.pointer (some ⟨q,0,none⟩))∧zH most w' own q d∧Below w.heap.size w w'∧∀k,own k→w.heap.size≤k
section
variable {w:World} {own:Nat→Prop} {p:Nat} {d:DD}
theorem qli{most:Nat}(h:zH most w own p d)(yT:most≤100000) :
    Calls prog 46 #[.pointer (some ⟨p,0,none⟩)] w (qeg most d w):=by
 obtain⟨h0,m,v,h1⟩:=h;have H0:=QH h0;have H1:=QH h1;have hml:d.more.length≤100000:=Nat.le_trans h0.qaA yT;have HML:=QH hml;have HON:Hid (∀u∈uW (ee d.base d.more),u.oneCell'=true):=by
  intro u hu;simp only[uW,List.mem_flatMap]at hu;obtain⟨x,_,hu⟩:=hu;exact wV x u hu
 obtain⟨c0,c1,c2,c3,c4,c5⟩:=jC h1.1;obtain⟨V,cv,hA⟩:=yq h1.2.2.1;have qxr:=h1.1.lt;obtain⟨es,clock,hm,hmk⟩:=h1.2.1.twin (w':=w) (n:=0);have HM:=QH hm;have HMK:=QH hmk;subst hA;clear h0 h1 yT hml hm hmk;go_enter func46,ntmps46;go_wp2_with (refine wpList_skip rfl (xG w 88 _ #[.int .i64 (d.n:Int),.int .i64 d.room,.map (some m),.slice V d.more.length cv,.bool d.on,.int .i64 d.qz] (.tmp 3) (.tmp 8) rfl rfl rfl (by rw[qso];rfl) rfl (by rfl)) ?_);have rU:Hid (qh (w.alloc (.cells #[.int .i64 (d.n:Int),.int .i64 d.room,.map (some m),.slice V d.more.length cv,.bool d.on,.int .i64 d.qz] 88)) w.heap.size 88 #[.int .i64 (d.n:Int),.int .i64 d.room,.map (some m),.slice V d.more.length cv,.bool d.on,.int .i64 d.qz]):=qh.new _ _ _;have qU:Hid (Below w.heap.size w (w.alloc (.cells #[.int .i64 (d.n:Int),.int .i64 d.room,.map (some m),.slice V d.more.length cv,.bool d.on,.int .i64 d.qz] 88))):=(Below.refl _ _).alloc (Nat.le_refl _) _;generalize w.alloc (.cells #[.int .i64 (d.n:Int),.int .i64 d.room,.map (some m),.slice V d.more.length cv,.bool d.on,.int .i64 d.qz] 88)=X1 at *;clear c0 c1 c2 c3 c4 c5;obtain⟨q,hq⟩:∃q,q=w.heap.size:=⟨_,rfl⟩;rw[← hq]at rU ⊢;have HQ:=QH hq;clear hq;refine(qed m es clock X1 ((qU.out.block m (Array.getElem?_eq_some_iff.1 HM.out).1).trans HM.out)).mono ?_;rintro e W2 ⟨rfl,rfl⟩;have tU:Hid (qh (X1.alloc (.map es clock)) q 88 #[.int .i64 (d.n:Int),.int .i64 d.room,.map (some m),.slice V d.more.length cv,.bool d.on,.int .i64 d.qz]):=rU.out.of_block (Below.heap_alloc _ _ _ rU.out.lt);have qG:Hid (Below w.heap.size w (X1.alloc (.map es clock))):=qU.out.alloc qU.out.size _;have HM2:Hid (xc (X1.alloc (.map es clock)) X1.heap.size d.now):=HMK.out _ _ (heap_alloc_new _ _);have HQM:Hid (q<X1.heap.size):=rU.out.lt;obtain⟨m2,hm2⟩:∃x,x=X1.heap.size:=⟨_,rfl⟩;rw[← hm2]at HM2 HQM ⊢;have zbP:Hid (m2<(X1.alloc (.map es clock)).heap.size):=HM2.out.lt;clear hm2;generalize X1.alloc (.map es clock)=X2 at *;obtain⟨q0,q1,q2,q3,q4,q5⟩:=jC tU.out;have fq:=tU.out.frozen 2;have fS:=tU.out.lt;obtain⟨s0,s1,s2,s3,s4,s5⟩:=jC (H1.out.keep qG.out.size (fun k hk=>qG.out.block k (H1.out.2.2.2.2.2.2 k hk))).1;have hpl:p<X2.heap.size:=Nat.lt_of_lt_of_le qxr qG.out.size;have hpq:p<q:=by rw[HQ.out];exact qxr
 go_wp2_with fail;have HP3:Hid (qh (X2.setCell ⟨q,2,none⟩ (.map (some m2))) q 88 #[.int .i64 (d.n:Int),.int .i64 d.room,.map (some m2),.slice V d.more.length cv,.bool d.on,.int .i64 d.qz]):=tU.out.qu 2 _;have zG:Hid (Below w.heap.size w (X2.setCell ⟨q,2,none⟩ (.map (some m2)))):=qG.out.setCell (by rw[HQ.out];exact Nat.le_refl _) _;have HM3:Hid (xc (X2.setCell ⟨q,2,none⟩ (.map (some m2))) m2 d.now):=HM2.out.of_block (xr _ _ _ _ _ (Nat.ne_of_gt HQM.out));generalize X2.setCell ⟨q,2,none⟩ (.map (some m2))=X3 at *;clear q0 q1 q2 q3 q4 q5 fq fS s0 s1 s2 s3 s4 s5 hpl;have qpX:X3.ownsRow 0 148 66 (.slice V d.more.length cv) d.more.length (uW (ee d.base d.more)):=(H1.out.keep zG.out.size (fun k hk=>zG.out.block k (H1.out.2.2.2.2.2.2 k hk))).2.2.1;refine(qef X3 _ _ _ qpX HON.out HML.out).mono ?_;rintro e W4 ⟨v4,rfl,ho4,hb4⟩;obtain⟨A4,c4,rfl⟩:=yq ho4;have sJ:=QH ho4;have zY:=QH hb4;clear qpX ho4 hb4;have fZ:Hid (qh W4 q 88 #[.int .i64 (d.n:Int),.int .i64 d.room,.map (some m2),.slice V d.more.length cv,.bool d.on,.int .i64 d.qz]):=HP3.out.of_block (zY.out.block q HP3.out.lt);obtain⟨q0,q1,q2,q3,q4,q5⟩:=jC fZ.out;have fq:=fZ.out.frozen 3;have fS:=fZ.out.lt;go_wp2_with fail;go_ret;have hq3:=HP3.out.lt;have hm3:=HM3.out.lt;have hx3:=zG.out.size;have qm:=HQM.out;have qq:=HQ.out;have h4:=zY.out.size;refine⟨q,fun k=>w.heap.size≤k∧k<W4.heap.size,rfl,⟨H0.out,m2,.slice A4 d.more.length c4,?_⟩,?_,fun k hk=>hk.1⟩
 ·refine⟨fZ.out.qu 3 _,(HM3.out.of_block (zY.out.block m2 hm3)).of_block (xr _ _ _ _ _ (Nat.ne_of_gt qm)),?_,⟨by omega,by omega⟩,⟨by omega,by omega⟩,fun j hj=>?_,fun k hk=>by rw[size_set];exact hk.2⟩
  ·have h5:(W4.setCell ⟨q,3,none⟩ (.slice A4 d.more.length c4)).ownsRow X3.heap.size 148 66 (.slice A4 d.more.length c4) d.more.length (uW (ee d.base d.more)):=xT sJ.out (fun j hj=>xr _ _ _ _ _ (by have h:=(sJ.out.lt j hj).1;omega));obtain⟨h1,h2⟩:=h5;refine⟨h1,?_⟩;rcases h2 with h2|⟨g,cap,cur,e1,_,e3⟩
   ·exact .inl h2
   ·exact .inr ⟨g,cap,cur,e1,Nat.zero_le _,e3⟩
  ·have h:=sJ.out.lt j hj;exact⟨Nat.le_trans hx3 h.1,h.2⟩
 ·exact(zG.out.trans (zY.out.mono zG.out.size)).setCell (by rw[qq];exact Nat.le_refl _) _
end
end Go.Proofs.YtdpbdkacngaemaaGreatDoor.dk
namespace Go.Proofs.YtdpbdkacngaemaaGreatDoor.vt.pg
open _root_.Go.Proofs.Tryz Go Go.RowKit Go.Sort ib mt im sp
theorem qbF{b N:Nat}(h1:1≤b)(h8:b≤8):jm b N (m0 b):=by
 refine⟨h1,h8,⟨by simp[m0],fun z hz=>.inl (by simp[m0]at hz;exact hz.2),fun i j _ hj _=>?_⟩,by simp[m0],fun s hs=>by simp[m0]at hs,trivial,.inl rfl,⟨fun s hs=>by simp[m0]at hs,by simp[m0,yg,zV],by simp[m0,yg,zV]⟩⟩;have hl:(m0 b).live=List.replicate b 0:=rfl;unfold pl;rw[hl];simp[List.getD,List.getElem?_replicate];split <;> rfl
theorem gU:∀(ss:List Bt) (o:Nat),((jr.zf o ss).map (·.1)).Nodup
 | [],o=>by simp[jr.zf]
 | s::r,o=>by
  unfold jr.zf;rw[List.map_cons,List.nodup_cons];refine⟨fun h=>?_,gU r (o+1)⟩;obtain⟨x,hx,e⟩:=List.mem_map.1 h;have:=(ig hx).1;dsimp only at e;omega
def fw (b:Nat):List Wr:=jr.zf 145 (xD (m0 b))
def ft (b:Nat):Tg:=jr.over (fun _=>dk.zz) (fw b)
theorem tE {b N:Nat}(h1:1≤b)(h8:b≤8)(hN:193≤N)(fM:N≤1024):∀x∈fw b,145≤x.1∧x.1<(N:Int)∧x.2.length=32:=by
 intro x hx;have h48:=(xJ (qbF (N:=N) h1 h8) fM).2;obtain⟨i,hi,e1,e2⟩:=jr.jf _ _ _ hx;rw[List.getElem?_eq_getElem hi]at e2;have e3:=Option.some.inj e2;exact⟨by omega,by omega,by rw[← e3];exact qaV _ _ (List.getElem_mem hi)⟩
theorem qsp{b N:Nat}(h1:1≤b)(h8:b≤8)(hN:193≤N)(fM:N≤1024):jr.lT N (fw b)=0:=by
 have h48:=(xJ (qbF (N:=N) h1 h8) fM).2;have hl:(fw b).length≤48:=by unfold fw;rw[jr.qX];exact h48
 have hp:jr.uG N (fw b)=true:=by
  unfold jr.uG;have hf:=gG (fw b) [] (by simpa[fw]using gU (xD (m0 b)) 145);rw[hf];simp only[List.nil_append,List.length_map,decide_true,Bool.and_true,List.all_eq_true];intro x hx;obtain⟨h1,h2,h3⟩:=tE h1 h8 hN fM x hx;unfold jr.okW;simp;exact⟨⟨h1,h2⟩,h3⟩
 unfold jr.lT;split
 ·rfl
 ·rw[if_neg (by omega),hp];simp
theorem qsq{b N:Nat}(h1:1≤b)(h8:b≤8)(hN:193≤N)(fM:N≤1024):yz b N (ft b) (m0 b):=by
 refine⟨qbF h1 h8,hN,fM,fun i hi=>?_,lZ _ _ (fun k _=>dk.zh) fun x hx=>(tE h1 h8 hN fM x hx).2.2⟩;have hm:(((145+i:Nat):Int),(xD (m0 b))[i])∈fw b:=by
  have key:∀(ss:List Bt) (o i:Nat) (hi:i<ss.length),(((o+i:Nat):Int),ss[i])∈jr.zf o ss:=by
   intro ss
   induction ss with
   | nil=>intro o i hi;simp at hi
   | cons s r ih =>
    intro o i hi;unfold jr.zf;cases i with
    | zero=>simp
    | succ j =>
     rw[List.getElem_cons_succ,show o+(j+1)=o+1+j by omega];exact List.mem_cons_of_mem _ (ih (o+1) j (by simpa using hi))
  exact key _ 145 i hi
 exact iM _ _ _ hm (gU _ _)
theorem qhw(N:Nat)(room:Int)(hN:145<N)(hr:(N:Int)≤room):(jr.jG (dk.DD.new N room)).1=0∧jr.JJ N (fun _=>dk.zz) (jr.jG (dk.DD.new N room)).2∧(jr.jG (dk.DD.new N room)).2.qz=0:=by
 have hn:(dk.DD.new N room).n=N:=by simp[dk.DD.n,dk.DD.new]
 have tQ:∀s∈jr.qC [[((0:Int),jr.jR 0 0)]],jr.fL (dk.DD.new N room).n s:=by
  rw[hn];refine jr.vN fun l hl x hx=>?_;obtain rfl:l=[(0,jr.jR 0 0)]:=by simpa using hl
  obtain rfl:x=(0,jr.jR 0 0):=by simpa using hx
  exact⟨by simp,by simp;omega,(jr.kP (by decide) (by decide)).1⟩
 have e:jr.jG (dk.DD.new N room)=(0,jr.mk (dk.DD.new N room) (dk.qQ (List.replicate N none) [(0,jr.jR 0 0)],[]) true 0):=by
  unfold jr.jG;rw[if_neg (by simp[dk.DD.new]),if_neg (by rw[hn];omega),jr.bF _ (dk.DD.new N room) rfl (Int.le_refl _) (by rw[hn];exact hr) tQ (.inl rfl)];have:((dk.DD.new N room).base,(dk.DD.new N room).more)=(List.replicate N none,[]):=rfl;rw[this,jr.dz];rfl
 rw[e];have hk:∀k,145≤k→jr.rd (dk.qQ (List.replicate N none) [(0,jr.jR 0 0)]) k=dk.zz:=fun k hk=>by
  rw[jr.je _ _ _ (fun x hx=>by
   obtain rfl:x=(0,jr.jR 0 0):=by simpa using hx
   dsimp only;omega)]
  unfold jr.rd;rw[jr.qhs];rfl
 refine⟨rfl,⟨⟨rfl,rfl,hr,by show(dk.qQ _ _).length=N;rw[dk.xa];simp,dk.wT (fun v hv=>by simp at hv) (fun x hx=>?_),0,0,[],?_,.inl ⟨rfl,rfl⟩,?_⟩,hk⟩,rfl⟩
 ·obtain rfl:x=(0,jr.jR 0 0):=by simpa using hx
  exact(jr.kP (by decide) (by decide)).1
 ·show jr.dL (jr.rd (dk.qQ (List.replicate N none) [(0,jr.jR 0 0)]) 0)=_;have:jr.rd (dk.qQ (List.replicate N none) [(0,jr.jR 0 0)]) 0=jr.jR 0 0:=by
   unfold jr.rd dk.qQ;simp only[List.foldl_cons,List.foldl_nil,dk.put];have:=dk.zy (List.replicate N none) 0 (some (jr.jR 0 0)) (by simp;omega);rw[show((0:Int))=((0:Nat):Int)from rfl,this];rfl
  rw[this];exact(jr.kP (by decide) (by decide)).2.1
 ·exact hk
theorem eW {w w':World}{A:Option Addr}{l:List Wr}(h:jr.kV w A l)(hs:w.heap.size≤w'.heap.size)(hb:∀b o,A=some ⟨b,o,none⟩→b<w.heap.size→w'.heap[b]?=w.heap[b]?):jr.kV w' A l:=by
 intro i hi;obtain⟨b,o,h1,h2,h3,h4,h5⟩:=h i hi;have hk:=hb b o h1 h2;exact⟨b,o,h1,Nat.lt_of_lt_of_le h2 hs,(World.cell?_of_block (w:=w) (a:=⟨b,o+i*2,none⟩) hk).trans h3,(World.cell?_of_block (w:=w) (a:=⟨b,o+i*2+1,none⟩) hk).trans h4,h5⟩
theorem kh {o:Nat→Prop}{w:World}{p N b:Nat}{room:Int}(h:dk.zH 1000 w o p (dk.DD.new N room))(cH:xK w)(hog:¬ o gN)(h1:1≤b)(h8:b≤8)(hN:193≤N)(fM:N≤1024)(hr:(N:Int)≤room){A:Option Addr}{c:Nat}(hA:jr.kV w A (fw b))(hAo:∀b o',A=some ⟨b,o',none⟩→¬ o b) :
    Calls prog 45 #[pt p,.slice A (fw b).length c] w fun e w'=>e=.returned (.int .i64 0)∧∃d' o',dk.zH 1000 w' o' p d'∧jr.JJ N (ft b) d'∧d'.qz=0∧ib.qB o w w'∧∀j,o' j→o j∨w.heap.size≤j:=by
 have HF:=QH (jr.qdE jr.qfc h (by simp[dk.DD.new]) (by decide));have HNR:=QH (qhw N room (by omega) hr);obtain⟨D0,hD0⟩:=QE (jr.jG (dk.DD.new N room));rw[hD0]at HF HNR;obtain⟨r0,d0⟩:=D0;have hr0:r0=0:=HNR.out.1;subst hr0;have dX:=QH cH;have HOG:=QH hog;have HA:=QH hA;have HAO:=QH hAo;have qxs:=QH (qsp h1 h8 hN fM);have tW:Hid ((fw b).length≤48):=by unfold Hid fw;rw[jr.qX];exact(xJ (qbF (N:=N) h1 h8) fM).2
 have HN:=QH (And.intro hN fM);have HFT:Hid (ft b=jr.over (fun _=>dk.zz) (fw b)):=rfl;obtain⟨l,hl⟩:=QE (fw b);rw[hl]at HA qxs tW HFT ⊢;clear h cH hog hA hAo h1 h8 hN fM hr hD0 hl;obtain⟨n,hn⟩:=QE l.length;have HNL:=QH hn;rw[hn];clear hn;go_enter func45,ntmps45;go_wp2_with fail;refine HF.out.mono ?_;rintro e W1 ⟨rfl,o1,hd1,hb1,hg1⟩;have qU:Hid (ib.qB o w W1):=sG hb1;have HG1:Hid (∀j,o1 j→o j∨w.heap.size≤j):=hg1;have qxt:d0.n=N:=HNR.out.2.1.rb.1;have hA1:=eW HA.out qU.out.size (fun b o' e hb=>qU.out.block b hb (HAO.out b o' e));have qht:xK W1:=vn dX.out qU.out.size (qU.out.block gN (xx dX.out) HOG.out);have hcm:=jr.cd jr.qfc jr.qkR hd1 (by rw[qxt];have:=HN.out;omega) A c l hA1 (by have:=tW.out;omega) qht (by rw[HNR.out.2.1.more];decide) (by decide);have HCA:Hid ((jr.zS d0 l).1=0∧jr.JJ N (ft b) (jr.zS d0 l).2∧(jr.zS d0 l).2.qz=0):=by
  rcases jr.lU (N:=N) (tgt:=fun _=>dk.zz) (l:=l) (d:=d0) (by have:=HN.out;omega) HN.out.2 HNR.out.2.1 (by rw[HNR.out.2.2];exact Int.le_refl _) qxs.out with⟨g1,g2,g3,_⟩|⟨_,_,g3,_⟩
  ·exact⟨g1,by rw[HFT.out];exact g2,g3 HNR.out.2.2⟩
  ·exact absurd HNR.out.2.2 g3
 obtain⟨RC,hRC⟩:=QE (jr.zS d0 l);rw[hRC]at hcm HCA;obtain⟨r1,d1⟩:=RC;have hr1:r1=0:=HCA.out.1;subst hr1;rw[HNL.out]at hcm;have HCM:=QH hcm;clear hd1 hb1 hg1 qxt hA1 qht hcm hRC HF;have hce:((0:Int) != 0)=false:=rfl;go_wp2_with fail;refine HCM.out.mono ?_;rintro e W2 ⟨rfl,o2,hd2,hb2,hg2⟩;have HD2:=QH hd2;have qG:Hid (ib.qB o1 W1 W2):=sG hb2;have HG2:Hid (∀j,o2 j→o1 j∨W1.heap.size≤j):=hg2;clear hd2 hb2 hg2 HCM;go_wp2_with fail;go_ret;have hs:=qU.out.size;refine⟨rfl,d1,o2,HD2.out,HCA.out.2.1,HCA.out.2.2,qU.out.trans qG.out (fun j hj=>HG1.out j hj),fun j hj=>?_⟩;rcases HG2.out j hj with hj|hj
 ·exact HG1.out j hj
 ·exact .inr (by omega)
theorem qox{w:World}{B:Nat}{v:Value}{l:List Wr}(h:jr.fY w B v l):∀a n c,v=.slice a n c→∀b o s,a=some ⟨b,o,s⟩→B≤b:=by
 intro a n c hv b o s ha;rcases h.2 with⟨rfl,h0⟩|⟨g,cap,cur,rfl,hg,hh,hcc,hm,hcs,yb⟩
 ·cases hv;cases ha
 ·cases hv;cases ha;exact hg
theorem oF {o:Nat→Prop}{w:World}{pd:Nat}(b N:Nat)(room:Int)(h:dk.zH 1000 w o pd (dk.DD.new N room))(cH:xK w)(hog:¬ o gN)(h1:1≤b)(h8:b≤8)(hN:193≤N)(fM:N≤1024)(hr:(N:Int)≤room) :
    Calls prog 9 #[pt pd,.int .i64 (b:Int)] w fun e w'=>e=.returned (.int .i64 0)∧∃t d' o',dk.zH 1000 w' o' pd d'∧jr.JJ N t d'∧yz b N t (m0 b)∧d'.qz=0∧ib.qB o w w'∧∀j,o' j→o j∨w.heap.size≤j:=by
 have hdn:(dk.DD.new N room).n=N:=by simp[dk.DD.n,dk.DD.new]
 have HL:=QH (mO h);rw[hdn]at HL;have uo:=(Below.refl w.heap.size w).alloc (Nat.le_refl _) (.cells (qj (List.replicate b 0)) 3);have hk:=qh.new w 3 (qj (List.replicate b 0));obtain⟨W1,hW1⟩:=QE (w.alloc (.cells (qj (List.replicate b 0)) 3));rw[hW1]at uo hk;have vD:jm b N (m0 b):=qbF h1 h8;have hmt:MtL W1 (some ⟨w.heap.size,0,none⟩) none none b 0 0 (m0 b) :=
  ⟨⟨qh.nums hk (fun z hz=>by simp[m0]at hz;rw[hz.2];unfold qA;omega),by simp[m0],fun h=>by cases h⟩,ji.nil _ _,⟨Nat.le_refl _,fun _=>⟨rfl,rfl⟩⟩,yU.none _,qlf.base,qlf.target,qlf.next,qlf.all⟩
 have hwr:=mI hmt (iQ vD) (vD.enc fM) (vD.size fM) (yA cH uo (xx cH));have hme:zw (some ⟨w.heap.size,0,none⟩) none none b 0 0 (m0 b) = #[.slice (some ⟨w.heap.size,0,none⟩) b b,.slice none 0 0,.int .u64 0,.int .u64 0,.int .u64 0,.int .u64 0,.int .i64 0,.int .i64 0,.slice none 0 0]:=by simp[zw,m0,yg]
 rw[hme]at hwr;have HWR:=QH hwr;have qU:=QH uo;have HD:=QH h;have dX:=QH cH;have HOG:=QH hog;have q1Q:=QH (qsq h1 h8 hN fM);have HEA:=QH (tE h1 h8 hN fM);have HP:Hid (0<(fw b).length):=by unfold Hid fw;rw[jr.qX];exact(xJ vD fM).1
 have qkN:Hid (∀(o:Nat→Prop) (w:World) (p:Nat),dk.zH 1000 w o p (dk.DD.new N room)→xK w→¬ o gN→∀(A:Option Addr) (c:Nat),jr.kV w A (fw b)→(∀b o',A=some ⟨b,o',none⟩→¬ o b) →
  Calls prog 45 #[pt p,.slice A (fw b).length c] w fun e w'=>e=.returned (.int .i64 0)∧∃d' o',dk.zH 1000 w' o' p d'∧jr.JJ N (ft b) d'∧d'.qz=0∧ib.qB o w w'∧∀j,o' j→o j∨w.heap.size≤j):=fun o w p hd hc ho A c hA hAo=>kh hd hc ho h1 h8 hN fM hr hA hAo
 have HN:=QH (And.intro hN fM);have g1:¬ (b:Int)<1:=by omega
 have g2:¬ (8:Int)<(b:Int):=by omega
 have g3:¬ (N:Int)<193:=by omega
 have qpL:b≤1000:=by omega
 clear h cH hog uo hk vD hmt hwr hme hr hdn h1 h8 hN fM;go_enter func9,ntmps9;go_wp2_with fail;refine HL.out.mono ?_;rintro e W0 ⟨rfl,rfl⟩;go_wp2_with (at_make;refine qx rfl (aG _ _ b rfl rfl rfl (by omega)) ?_);try rw[hW1]
 clear hW1;go_wp2_with fail;refine HWR.out.mono ?_;rintro e W2 ⟨vl,rfl,hol,hb2⟩;have qsr:jr.fY W2 W1.heap.size vl (fw b):=hol;have hnew:=qox qsr;have qG:=QH (qc qU.out hb2);obtain⟨A,ca,rfl,ou⟩:=qsr.view (fun x hx=>by have:=HEA.out x hx;have:=HN.out;unfold jr.qA;omega);have HWS:=QH ou;have qa1:Hid (∀b' o',A=some ⟨b',o',none⟩→w.heap.size≤b'∧b'<W2.heap.size):=fun b' o' e=>by
  have g1:=hnew A _ ca rfl b' o' none e;obtain⟨b'',o'',e2,g2,_⟩:=ou 0 HP.out;rw[e]at e2;injection e2 with e2
  injection e2 with e3 e4
  exact⟨Nat.le_trans qU.out.size g1,by rw[e3];exact g2⟩
 have HCP:=QH (dk.qli (HD.out.below qG.out) (by decide));have HLEN:Hid (jr.zf 145 (xD (m0 b))=fw b):=rfl;obtain⟨n,hn⟩:=QE ((fw b).length);rw[hn]at qkN;rw[hn];clear hol hb2 ou qsr hnew hn HWR;have hce:((0:Int) != 0)=false:=rfl;go_wp2_with fail;refine HCP.out.mono ?_;rintro e W3 ⟨q,ow,rfl,hdq,hb3,hlo⟩;have zG:=QH (qc qG.out hb3);have hw3:=eW HWS.out hb3.size (fun b' o' e hb=>hb3.block b' hb);have qxu:=yA dX.out zG.out (xx dX.out);have HLY:=QH (qkN.out ow W3 q hdq qxu (fun h=>by have g1:=hlo _ h;have g2:=xx dX.out;have g3:=qG.out.size;omega) A ca hw3 (fun b' o' e h=>by have g1:=hlo _ h;have g2:=qa1.out b' o' e;omega));have eU:=QH hlo;have HW3:=QH hw3;have po:=QH hb3.size;clear hdq hb3 hlo hw3 qxu HCP;go_wp2_with fail;refine HLY.out.mono ?_;rintro e W4 ⟨rfl,d4,o4,hd4,hj4,hf4,hb4,hg4⟩;have qoy:Below W2.heap.size W3 W4:=hb4.below (fun j hj=>eU.out j hj) po.out;have zY:Hid (Below w.heap.size w W4):=zG.out.trans (qoy.mono qG.out.size);have hw4:=eW HW3.out qoy.size (fun b' o' e hb=>qoy.block b' (qa1.out b' o' e).2);have qxv:=yA dX.out zY.out (xx dX.out);have qxw:=QH (qkN.out o W4 pd (HD.out.below zY.out) qxv HOG.out A ca hw4 (fun b' o' e h=>by have g1:=HD.out.low _ h;have g2:=qa1.out b' o' e;omega));clear hd4 hj4 hf4 hb4 hg4 qoy hw4 qxv HLY;go_wp2_with fail;refine qxw.out.mono ?_;rintro e W5 ⟨rfl,d5,o5,hd5,hj5,hf5,hb5,hg5⟩;have H1:=QH hd5;have H2:=QH hj5;have H3:=QH hf5;have H4:=QH hb5;have H5:=QH hg5;clear hd5 hj5 hf5 hb5 hg5 qxw;go_wp2_with fail;go_ret;have hs:=zY.out.size;refine⟨rfl,ft b,d5,o5,H1.out,H2.out,q1Q.out,H3.out,(ib.qB.of_below (S:=o) zY.out).trans H4.out (fun _ h=>.inl h),fun j hj=>?_⟩;rcases H5.out j hj with hj|hj
 ·exact .inl hj
 ·exact .inr (by omega)
end Go.Proofs.YtdpbdkacngaemaaGreatDoor.vt.pg

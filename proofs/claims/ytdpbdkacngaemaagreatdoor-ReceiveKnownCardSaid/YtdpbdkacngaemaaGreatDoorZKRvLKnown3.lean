/- StCut. -/
import Derived.Test.YtdpbdkacngaemaaGreatDoorZKRvLKnown2
set_option linter.unusedVariables false
set_option linter.unusedSimpArgs false
set_option maxHeartbeats 30000000
set_option maxRecDepth 100000
namespace Go.Proofs.YtdpbdkacngaemaaGreatDoor.st
open _root_.Go.Proofs.Tryz Go Go.RowKit Go.Sort ib wi mt
open ch (kX xy xj jY)
theorem ql9{w:World}{b o:Nat}{l:List Ch}(h:kX w (some ⟨b,o,none⟩) l)(k n:Nat):kX w (some ⟨b,o+k*2,none⟩) ((l.drop k).take n):=by
 intro i hi;have h1:i<n∧k+i<l.length:=by
  rw[List.length_take,List.length_drop]at hi;omega
 obtain⟨b',o',e,h2,h3,h4,h5⟩:=h (k+i) h1.2;simp only[Option.some.injEq,Addr.mk.injEq,and_true]at e;obtain⟨rfl,rfl⟩:=e;have hg:((l.drop k).take n)[i]=l[k+i]'h1.2:=by rw[List.getElem_take,List.getElem_drop]
 rw[hg];exact⟨b,o+k*2,rfl,h2,by rw[show o+k*2+i*2=o+(k+i)*2 by omega];exact h3,by rw[show o+k*2+i*2=o+(k+i)*2 by omega];exact h4,h5⟩
theorem qfp(l:List Ch)(k:Nat):((l.drop k).take 2).length=min (k+2) l.length-k:=by
 rw[List.length_take,List.length_drop];omega
theorem qlA{w:World}{B:Nat}{v:Value}{l:List Ch}(h:xy w B v l)(hz:∀x∈l,zJ x.1):∃a c,v=.slice a l.length c∧kX w a l∧∀b o,a=some ⟨b,o,none⟩→B≤b∧b<w.heap.size:=Go.Proofs.YtdpbdkacngaemaaGreatDoor.ch.xy.qpK h hz
theorem qoF{w:World}{A:Option Addr}{l:List Ch}(h:kX w A l):∀x∈l,zJ x.1:=fun x hx=>by
 obtain⟨i,hi,rfl⟩:=List.getElem_of_mem hx;obtain⟨_,_,_,_,_,_,h⟩:=h i hi;exact h
def ri (r:Pa × Int)(w:World)(e:Ending)(w':World):Prop:=∃A c,e=.returned (.tuple #[.agg (jg r.1 A c),.int .i64 r.2])∧iR w' A c r.1∧xy w' w.heap.size (.slice A r.1.zF.length c) r.1.zF∧ir w w' A∧Below w.heap.size w w'
theorem ri.less{r:Pa × Int}{w:World}{e:Ending}{w':World}(h:ri r w e w'):qf4 r w e w':=by
 obtain⟨A,c,h1,h2,_,h3,h4⟩:=h;exact⟨A,c,h1,h2,h3,h4⟩
theorem qfq{w WE:World}{b:Nat}{r:Pa × Int}{A:Option Addr}{c:Nat}{fn:Func}{p q:Tmp}(hf:fn.results = #[.cell p 41,.tmp q])(a:Act)(ha:a.defers=[])(hp:a.tmps.getD p undef=.pointer (some ⟨b,0,none⟩))(hq:a.tmps.getD q undef=.int .i64 r.2)
    (h:qh WE b 41 (pC r.1.base r.1.target r.1.fr r.1.all (.slice A r.1.zF.length c))) (hm:iR WE A c r.1) (ho:xy WE w.heap.size (.slice A r.1.zF.length c) r.1.zF) (hn:ir w WE A) (hb:Below w.heap.size w WE):bodyPost prog fn (ri r w) .ret a WE:=by
 have hl:=qoE h;refine bodyPost_ret (v:=.tuple #[.agg (jg r.1 A c),.int .i64 r.2]) ?_ ha ⟨A,c,rfl,hm,ho,hn,hb⟩;have e:jg r.1 A c=pC r.1.base r.1.target r.1.fr r.1.all (.slice A r.1.zF.length c):=rfl;rw[e];clear h hm e ho;generalize pC r.1.base r.1.target r.1.fr r.1.all (.slice A r.1.zF.length c)=X at *;exact jB hf a.tmps _ _ ⟨b,0,none⟩ _ _ hp hq hl
theorem cm {w WE:World}{b:Nat}{e:Int}{fn:Func}{p q:Tmp}(hf:fn.results = #[.cell p 41,.tmp q])(a:Act)(ha:a.defers=[])(hp:a.tmps.getD p undef=.pointer (some ⟨b,0,none⟩))(hq:a.tmps.getD q undef=.int .i64 e)
    (h:qh WE b 41 pZ) (hb:Below w.heap.size w WE):bodyPost prog fn (ri (pa0,e) w) .ret a WE :=
 qfq (r:=(pa0,e)) (A:=none) (c:=0) hf a ha hp hq (by rw[af]at h;exact h) (q2b _) (World.ownsRow_nil _ _ _ _) (ir.none _ _) hb
theorem qlB(g t:Gd)(A:Option Addr)(cp:Nat)(l:List Ch)(fr:Int)(w:World)(hg:zV g)(ht:zV t)(h:kX w A l)(hl:l.length≤1000)(fR:l.length≤cp)(hA:(A=none∧cp=0)∨∃b o,A=some ⟨b,o,none⟩)(hd:∀c∈l,c.2.length≤1000000)(hfr:zJ fr) :
    Calls prog 90 #[gv g,gv t,.slice A l.length cp,.int .i64 fr] w (ri (qbK g t l fr) w):=by
 have HGB:=QH hg;have HTB:=QH ht;have HD:=QH hd;have HFR:=QH hfr;have b1:=(Below.refl w.heap.size w).alloc (Nat.le_refl _) (.cells #[.int .u64 (g.1:Int),.int .u64 (g.2:Int)] 38);have k1:=qh.new w 38 #[.int .u64 (g.1:Int),.int .u64 (g.2:Int)];obtain⟨W1,hW1⟩:=QE (w.alloc (.cells #[.int .u64 (g.1:Int),.int .u64 (g.2:Int)] 38));rw[hW1]at b1 k1;have b2:=(Below.refl W1.heap.size W1).alloc (Nat.le_refl _) (.cells #[.int .u64 (t.1:Int),.int .u64 (t.2:Int)] 38);have k2:=qh.new W1 38 #[.int .u64 (t.1:Int),.int .u64 (t.2:Int)];obtain⟨W2,hW2⟩:=QE (W1.alloc (.cells #[.int .u64 (t.1:Int),.int .u64 (t.2:Int)] 38));rw[hW2]at b2 k2;have b3:=(Below.refl W2.heap.size W2).alloc (Nat.le_refl _) (.cells pZ 41);have k3:=qh.new W2 41 pZ;obtain⟨W3,hW3⟩:=QE (W2.alloc (.cells pZ 41));rw[hW3]at b3 k3;have zG:=QH (qc (qc b1 b2) b3);have fT:=QH ((k1.below b2).below b3);have wj:=QH (k2.below b3);have HR:=QH k3;have HC:=QH (((h.below b1).below b2).below b3);have dm:Hid (w.heap.size≤W2.heap.size):=(qc b1 b2).size;obtain⟨g0,hg0⟩:=QE w.heap.size;obtain⟨g1,hg1⟩:=QE W1.heap.size;obtain⟨g2,hg2⟩:=QE W2.heap.size;rw[hg0]at fT;rw[hg1]at wj;rw[hg2]at HR dm;have qhJ:=QH dm.out;have HAB:Hid (∀W,Calls prog 150 #[gv t,gv g] W (kE (above t g) W)):=fun W=>uU _ _ W;have qlC:Hid (∀W,Below W3.heap.size W3 W→Calls prog 151 #[.slice A l.length cp] W (kE (may l) W)):=fun W hb=>ra A cp l W (HC.out.below hb) (by omega);have qhK:Hid (∀(A':Option Addr) (n c':Nat) W,Below W3.heap.size W3 W→kX W A' ((l.drop n).take 2)→Calls prog 163 #[.slice A' ((l.drop n).take 2).length c'] W (qsL ((l.drop n).take 2) W)):=fun A' n c' W hb hc=>qoD A' c' _ W hc (by rw[qfp];omega) (fun x hx=>HD.out x (List.mem_of_mem_drop (List.mem_of_mem_take hx)));have HPC:Hid (qbK g t l fr=if tH g t l fr=true then(pa0,2)else(⟨g,t,fr,l.length,(l.drop fr.toNat).take 2⟩,0)):=rfl;have yu:Hid (above t g=false∨may l=false∨fr<0∨max (l.length:Int) 1≤fr→qbK g t l fr=(pa0,2)):=fun hx=>by
  rw[HPC.out,if_pos];unfold tH;simp only[Bool.or_eq_true,Bool.not_eq_true',decide_eq_true_eq];rcases hx with hx|hx|hx|hx <;> simp only[hx,true_or,or_true]
 have fH:Hid (above t g=true→may l=true→¬ fr<0→¬ max (l.length:Int) 1≤fr→qbK g t l fr=(⟨g,t,fr,l.length,(l.drop fr.toNat).take 2⟩,0)):=fun h1 h2 h3 h4=>by
  rw[HPC.out,if_neg];unfold tH;simp only[Bool.or_eq_true,Bool.not_eq_true',decide_eq_true_eq,h1,h2,h3,h4,Bool.true_eq_false,or_false,not_false_eq_true]
 have HLB:Hid (∀n,((l.drop n).take 2).length=min (n+2) l.length-n):=fun n=>qfp l n;have qxI:Hid (∀n,∀x∈(l.drop n).take 2,zJ x.1):=fun n x hx=>qoF h x (List.mem_of_mem_drop (List.mem_of_mem_take hx));have HDR:Hid (∀W,Below W3.heap.size W3 W→∀b o,A=some ⟨b,o,none⟩→∀k n,kX W (some ⟨b,o+k*2,none⟩) ((l.drop k).take n)):=fun W hb b o e k n=>by
  have:=HC.out.below hb;rw[e]at this;exact ql9 this k n
 obtain⟨P,hP⟩:=QE (qbK g t l fr);rw[hP]at yu fH ⊢;obtain⟨R,hR⟩:=QE (above t g);rw[hR]at HAB yu fH;obtain⟨M,hM⟩:=QE (may l);rw[hM]at qlC yu fH;obtain⟨n,hn⟩:=QE l.length;have HN:=QH hn;rw[hn]at hl fR qlC yu fH HLB ⊢;clear b1 b2 b3 k1 k2 k3 h hg ht hd hP hR hM hn HPC HC hfr;have p0:=fT.out.cell 0;have p1:=fT.out.cell 1;have q0:=wj.out.cell 0;have q1:=wj.out.cell 1;have hl1:=fT.out.lt;have hl2:=wj.out.lt;simp only[QA,QB,QC]at p0 p1 q0 q1;unfold gv at HAB;show Calls prog 90 #[.agg #[.int .u64 (g.1:Int),.int .u64 (g.2:Int)],.agg #[.int .u64 (t.1:Int),.int .u64 (t.2:Int)],.slice A n cp,.int .i64 fr] w _;unfold pZ at hW3;go_enter func90,ntmps90;go_upto_region 1 with fail;try rw[hW3]
 try rw[hg0]
 try rw[hg1]
 try rw[hg2]
 clear hW1 hW2 hW3 hg0 hg1 hg2;go_wp2_with fail;refine(HAB.out W3).mono ?_;rintro e W4 ⟨rfl,c4⟩;have zY:=QH (qc zG.out c4);have nZ:=QH c4;have hr:=HR.out.below c4;have tV:=QH hr;clear c4 p0 p1 q0 q1 hl1 hl2 HAB;cases R with
 | false =>
  obtain rfl:P=(pa0,2):=yu.out (.inl rfl);clear yu fH qlC qhK;have hr:=tV.out;have a0:=hr.cell 0;have a1:=hr.cell 1;have a2:=hr.cell 2;have a3:=hr.cell 3;have a4:=hr.cell 4;have a5:=hr.cell 5;have a6:=hr.cell 6;have f0:=hr.frozen 0;have f1:=hr.frozen 1;have f2:=hr.frozen 2;have f3:=hr.frozen 3;have f4:=hr.frozen 4;have f5:=hr.frozen 5;have f6:=hr.frozen 6;have hrl:=hr.lt;simp only[pZ,QA,QB,QC]at a0 a1 a2 a3 a4 a5 a6;clear hr;go_wp2_with fail;show bodyPost _ _ _ _ _ (wq W4 g2 (0,0) (0,0) 0 0 aq);exact cm (b:=g2) results90 _ rfl (by simp) (by simp) (by rw[af];exact vA (by rw[← af];exact tV.out)) (jO zY.out qhJ.out)
 | true =>
  go_wp2_with fail;refine(qlC.out W4 nZ.out).mono ?_;rintro e W5 ⟨rfl,c5⟩;have jU:=QH (qc zY.out c5);have iz:=QH (qc nZ.out c5);have uN:=QH (tV.out.below c5);clear c5 hr qlC tV zY nZ;cases M with
  | false =>
   obtain rfl:P=(pa0,2):=yu.out (.inr (.inl rfl));clear yu fH qhK;have hr:=uN.out;have a0:=hr.cell 0;have a1:=hr.cell 1;have a2:=hr.cell 2;have a3:=hr.cell 3;have a4:=hr.cell 4;have a5:=hr.cell 5;have a6:=hr.cell 6;have f0:=hr.frozen 0;have f1:=hr.frozen 1;have f2:=hr.frozen 2;have f3:=hr.frozen 3;have f4:=hr.frozen 4;have f5:=hr.frozen 5;have f6:=hr.frozen 6;have hrl:=hr.lt;simp only[pZ,QA,QB,QC]at a0 a1 a2 a3 a4 a5 a6;clear hr;go_wp2_with fail;show bodyPost _ _ _ _ _ (wq W5 g2 (0,0) (0,0) 0 0 aq);exact cm (b:=g2) results90 _ rfl (by simp) (by simp) (by rw[af];exact vA (by rw[← af];exact uN.out)) (jO jU.out qhJ.out)
  | true =>
   by_cases h1:fr<0
   ·obtain rfl:P=(pa0,2):=yu.out (.inr (.inr (.inl h1)));clear yu fH qhK;have hr:=uN.out;have a0:=hr.cell 0;have a1:=hr.cell 1;have a2:=hr.cell 2;have a3:=hr.cell 3;have a4:=hr.cell 4;have a5:=hr.cell 5;have a6:=hr.cell 6;have f0:=hr.frozen 0;have f1:=hr.frozen 1;have f2:=hr.frozen 2;have f3:=hr.frozen 3;have f4:=hr.frozen 4;have f5:=hr.frozen 5;have f6:=hr.frozen 6;have hrl:=hr.lt;simp only[pZ,QA,QB,QC]at a0 a1 a2 a3 a4 a5 a6;clear hr;go_wp2_with fail;show bodyPost _ _ _ _ _ (wq W5 g2 (0,0) (0,0) 0 0 aq);exact cm (b:=g2) results90 _ rfl (by simp) (by simp) (by rw[af];exact vA (by rw[← af];exact uN.out)) (jO jU.out qhJ.out)
   obtain⟨mx,hmx⟩:=QE (max (n:Int) 1);have q2D:(if (n:Int)<1 then(1:Int)else(n:Int))=mx:=by rw[← hmx];omega
   have q2E:(if (1:Int)<(n:Int)then(n:Int)else(1:Int))=mx:=by rw[← hmx];omega
   have HMX:=QH hmx;rw[hmx]at yu fH;by_cases h2:mx≤fr
   ·obtain rfl:P=(pa0,2):=yu.out (.inr (.inr (.inr h2)));clear yu fH qhK;have hr:=uN.out;have a0:=hr.cell 0;have a1:=hr.cell 1;have a2:=hr.cell 2;have a3:=hr.cell 3;have a4:=hr.cell 4;have a5:=hr.cell 5;have a6:=hr.cell 6;have f0:=hr.frozen 0;have f1:=hr.frozen 1;have f2:=hr.frozen 2;have f3:=hr.frozen 3;have f4:=hr.frozen 4;have f5:=hr.frozen 5;have f6:=hr.frozen 6;have hrl:=hr.lt;simp only[pZ,QA,QB,QC]at a0 a1 a2 a3 a4 a5 a6;clear hr;go_wp2_with fail;show bodyPost _ _ _ _ _ (wq W5 g2 (0,0) (0,0) 0 0 aq);exact cm (b:=g2) results90 _ rfl (by simp) (by simp) (by rw[af];exact vA (by rw[← af];exact uN.out)) (jO jU.out qhJ.out)
   have HP:=QH (fH.out (by first|rfl|trivial) (by first|rfl|trivial) (by omega) (by omega));obtain⟨k,hk⟩:∃k:Nat,fr=(k:Int):=⟨fr.toNat,by omega⟩;subst hk;rw[Int.toNat_natCast]at HP;have hkn:k≤n∧k≤1000:=by omega
   have p0:=(fT.out.below iz.out).cell 0;have p1:=(fT.out.below iz.out).cell 1;have q0:=(wj.out.below iz.out).cell 0;have q1:=(wj.out.below iz.out).cell 1;have hl1:=(fT.out.below iz.out).lt;have hl2:=(wj.out.below iz.out).lt;simp only[QA,QB,QC]at p0 p1 q0 q1;obtain⟨W6,hW6⟩:=QE (W5.alloc (.cells (pC g t (k:Int) (n:Int) aq) 41));have c6:Below W5.heap.size W5 W6:=by rw[← hW6];exact(Below.refl _ _).alloc (Nat.le_refl _) _
   have hM:qh W6 W5.heap.size 41 (pC g t (k:Int) (n:Int) aq):=by rw[← hW6];exact qh.new _ _ _
   have dJ:=QH (qc jU.out c6);have HS6:=QH (qc iz.out c6);have HR6:=QH (uN.out.below c6);have HMG:Hid (g2<W5.heap.size):=uN.out.lt;clear c6 uN jU iz yu fH;have zcs:¬ mx≤(k:Int):=h2;unfold pC aq at hW6;have HW6:=QH hW6;clear hW6;go_upto_region 9 with fail;try rw[HW6.out]
   obtain⟨gm,hgm⟩:=QE W5.heap.size;rw[hgm]at hM HMG;have HM6:=QH hM;try rw[hgm]
   clear HW6 hM hgm p0 p1 q0 q1 hl1 hl2 hmx q2D q2E;obtain⟨m,hm⟩:=QE (min (k+2) n);have hmi:min ((k:Int)+2) (n:Int)=(m:Int):=by omega
   have q2G:(if (n:Int)<(k:Int)+2 then(n:Int)else(k:Int)+2)=(m:Int):=by omega
   have q2H:(if (k:Int)+2<(n:Int)then(k:Int)+2 else(n:Int))=(m:Int):=by omega
   have HLK:Hid (((l.drop k).take 2).length=m-k):=by unfold Hid;rw[HLB.out,hm]
   have hkm:k≤m∧m≤cp:=by omega
   have dG:∃A',(∀W,(Instr.sliceAt 39 (.slice A n cp) (some (.int .i64 (k:Int))) (some (.int .i64 (m:Int))) none).run prog W=.ok (.slice A' (m-k) (cp-k)) W)∧(∀W,Below W3.heap.size W3 W→kX W A' ((l.drop k).take 2)):=by
    have hu:=underlying39;have he:prog.elem 39=122:=by kernel_rfl
    rcases hA with⟨rfl,hc0⟩|⟨b,o,rfl⟩
    ·refine⟨none,fun W=>?_,fun W hb=>?_⟩
     ·have hs:(sizeOf 122).run prog W=.ok 2 W:=by simp[go_sem,sizeOf122]
      rw[run_sliceAt_slice W _ _ _ _ _ (by rw[he];exact hu),run_slice_lh W _ _ _ _ (by rw[he];exact hu) _ _ _ _ (by omega) (by omega) (by omega),he,hs];have e1:((k:Int)).toNat=k:=Int.toNat_natCast k;have e2:((m:Int)).toNat=m:=Int.toNat_natCast m;simp only[Result.andThen,sliced,e1,e2];simp
     ·have hz:(l.drop k).take 2=[]:=List.length_eq_zero_iff.1 (by rw[HLK.out];omega);rw[hz];exact kX.nil _ _
    ·refine⟨some ⟨b,o+k*2,none⟩,fun W=>?_,fun W hb=>HDR.out W hb b o rfl k 2⟩;have hs:(sizeOf 122).run prog W=.ok 2 W:=by simp[go_sem,sizeOf122]
     rw[run_sliceAt_slice W _ _ _ _ _ (by rw[he];exact hu),run_slice_lh W _ _ _ _ (by rw[he];exact hu) _ _ _ _ (by omega) (by omega) (by omega),he,hs];have e1:((k:Int)).toNat=k:=Int.toNat_natCast k;have e2:((m:Int)).toNat=m:=Int.toNat_natCast m;simp only[Result.andThen,sliced,e1,e2];by_cases hkc:cp=k
     ·obtain rfl:k=0:=by have:=HMX.out;omega
      simp[hkc,Addr.add]
     ·rw[if_neg hkc];simp[Addr.add]
   obtain⟨A',hs1,hs2⟩:=dG;have kY:=QH hs2;have tU:Hid (P=(⟨g,t,(k:Int),(n:Int),(l.drop k).take 2⟩,0)):=HP.out;obtain⟨L2,hL2⟩:=QE ((l.drop k).take 2);have qxJ:Hid (∀c' W,Below W3.heap.size W3 W→kX W A' L2→Calls prog 163 #[.slice A' (m-k) c'] W (qsL L2 W)):=fun c' W hb hc=>by
    have:=qhK.out A' k c' W hb (by rw[hL2];exact hc);rw[HLK.out,hL2]at this;exact this
   have qxK:Hid (∀x∈L2,zJ x.1):=by rw[← hL2];exact qxI.out k
   have zct:Hid (L2.length=m-k):=by rw[← hL2];exact HLK.out
   rw[hL2]at kY tU;clear hs2 hL2 qhK HLK qxI HDR HP;go_wp2_with fail;refine(qxJ.out _ W6 HS6.out (kY.out W6 HS6.out)).mono ?_;rintro e W7 ⟨v,rfl,ho,c7⟩;obtain⟨A7,c77,rfl,hc7,hn7⟩:=qlA ho qxK.out;have HB7:=QH (qc dJ.out c7);have HR7:=QH (HR6.out.below c7);have hM7:=HM6.out.below c7;have HM7:=QH hM7;have HC7:=QH hc7;have HN7:=QH hn7;have HZ7:Hid (W6.heap.size≤W7.heap.size∧gm<W6.heap.size∧g2<W6.heap.size):=⟨c7.size,HM6.out.lt,HR6.out.lt⟩;have m6:=hM7.cell 6;have f6:=hM7.frozen 6;have hml:=hM7.lt;simp only[pC,QA,QB,QC]at m6;obtain⟨W8,nJ⟩:=QE (W7.setCell ⟨gm,6,none⟩ (.slice A7 L2.length c77));have hM8:qh W8 gm 41 (pC g t (k:Int) (n:Int) (.slice A7 L2.length c77)):=by
    rw[← nJ];have:=HM7.out.qu 6 (.slice A7 L2.length c77);simp only[pC,List.setIfInBounds_toArray,List.set_cons_succ,List.set_cons_zero]at this;exact this
   have hR8:qh W8 g2 41 pZ:=by
    rw[← nJ];exact HR7.out.of_block (qw _ _ _ _ _ (by have:=HMG.out;omega))
   have hB8:Below w.heap.size w W8:=by
    rw[← nJ];exact HB7.out.setCell (show w.heap.size≤gm by have:=qhJ.out;have:=HMG.out;omega) _
   have hC8:kX W8 A7 L2:=by
    intro i hi;obtain⟨b,o,e1,e2,e3,e4,e5⟩:=HC7.out i hi;have hne:b≠gm:=by
     have:=(HN7.out b o e1).1;have:=HZ7.out.2.1;omega
    have hblk:W8.heap[b]?=W7.heap[b]? :=by rw[← nJ];exact qw _ _ _ _ _ hne
    exact⟨b,o,e1,by rw[← nJ,World.size_setCell];exact e2,by rw[World.cell?_of_block (a:=⟨b,o+i*2,none⟩) hblk];exact e3,by rw[World.cell?_of_block (a:=⟨b,o+i*2+1,none⟩) hblk];exact e4,e5⟩
   have HM8:=QH hM8;have HR8:=QH hR8;have HB8:=QH hB8;have HC8:=QH hC8;have HN8:Hid (∀b o,A7=some ⟨b,o,none⟩→w.heap.size≤b∧b<W8.heap.size∧b≠g2):=fun b o e=>by
    have h1:=HN7.out b o e;have h2:=HZ7.out;have h3:=dJ.out.size;refine⟨by omega,by rw[← nJ,World.size_setCell];exact h1.2,by omega⟩
   have HO8:Hid (xy W8 w.heap.size (.slice A7 L2.length c77) L2):=by
    unfold Hid;rw[← nJ];exact zK (qaq ho dJ.out.size) (fun j hj=>qw _ _ _ _ _ (qap ho HM7.out (by decide) j hj))
   have HW8:=QH nJ;clear hM8 hR8 hB8 hC8 c7 hc7 hn7 ho hM7 nJ hs1 hmi q2G q2H qxJ kY;have r:=HR8.out;have a0:=r.cell 0;have e0:=r.frozen 0;have a1:=r.cell 1;have e1:=r.frozen 1;have a2:=r.cell 2;have e2:=r.frozen 2;have a3:=r.cell 3;have e3:=r.frozen 3;have a4:=r.cell 4;have e4:=r.frozen 4;have a5:=r.cell 5;have e5:=r.frozen 5;have a6:=r.cell 6;have e6:=r.frozen 6;have hrl:=r.lt;simp only[pZ,QA,QB,QC]at a0 a1 a2 a3 a4 a5 a6;go_upto_region 10 with fail;try rw[HW8.out]
   clear m6 f6 hml HW8 r;have hm8:=HM8.out;have m0:=hm8.cell 0;have m1:=hm8.cell 1;have m2:=hm8.cell 2;have m3:=hm8.cell 3;have m4:=hm8.cell 4;have m5:=hm8.cell 5;have m6:=hm8.cell 6;have hml:=hm8.lt;simp only[pC,QA,QB,QC]at m0 m1 m2 m3 m4 m5 m6;clear hm8;go_wp2_with fail;show bodyPost _ _ _ _ _ (wq W8 g2 g t (k:Int) (n:Int) (.slice A7 L2.length c77));have HF:Hid (iR (wq W8 g2 g t (k:Int) (n:Int) (.slice A7 L2.length c77)) A7 c77 ⟨g,t,(k:Int),(n:Int),L2⟩):=by
    refine⟨fun i hi=>?_,HGB.out,HTB.out,HFR.out,by unfold zJ;dsimp only;omega⟩;obtain⟨b,o,e1,e2,e3,e4,e5⟩:=HC8.out i hi;have hblk:=rh W8 g2 g t (k:Int) (n:Int) (.slice A7 L2.length c77) b (HN8.out b o e1).2.2;exact⟨b,o,e1,by rw[nH];exact e2,by rw[World.cell?_of_block (a:=⟨b,o+i*2,none⟩) hblk];exact e3,by rw[World.cell?_of_block (a:=⟨b,o+i*2+1,none⟩) hblk];exact e4,e5⟩
   have hPP:=tU.out;subst hPP;exact qfq (r:=(⟨g,t,(k:Int),(n:Int),L2⟩,0)) (b:=g2) results90 _ rfl (by simp) (by simp) (vA (by rw[← af];exact HR8.out)) HF.out (zK HO8.out (fun j hj=>rh _ _ _ _ _ _ _ _ (qap HO8.out HR8.out (by decide) j hj))) (fun b o e=>by have:=HN8.out b o e;rw[nH];omega) (jO HB8.out qhJ.out)
theorem iN (g t:Gd)(A:Option Addr)(cp:Nat)(l:List Ch)(fr:Int)(w:World)(hg:zV g)(ht:zV t)(h:kX w A l)(hl:l.length≤1000)(fR:l.length≤cp)(hA:(A=none∧cp=0)∨∃b o,A=some ⟨b,o,none⟩)(hd:∀c∈l,c.2.length≤1000000)(hfr:zJ fr) :
    Calls prog 90 #[gv g,gv t,.slice A l.length cp,.int .i64 fr] w (qf4 (qbK g t l fr) w) :=
 (qlB g t A cp l fr w hg ht h hl fR hA hd hfr).mono fun _ _=>ri.less
end Go.Proofs.YtdpbdkacngaemaaGreatDoor.st

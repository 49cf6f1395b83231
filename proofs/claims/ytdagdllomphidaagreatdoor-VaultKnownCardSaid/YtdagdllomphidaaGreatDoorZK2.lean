/- MgTake, MgLay, MgSame, MgChk, MtAbove, ImRefI, ImRefC, MtChk, MgCk, MgPut, WiRefP, MtNums, MtGdB, MtSize, SlotsP, MtEnc, MgEnc, MtProg, DkPure, DkMap, DkMem, DkOps, DkEasy, DkNew, DkFits. -/
import Derived.Test.YtdagdllomphidaaGreatDoorZK1
import Derived.Laws.EntriesVeiled
import Derived.Lib.QuietBelow
import Derived.Laws.AppendOwnNone
import Derived.Lib.BufferWrite
set_option linter.unusedVariables false
set_option linter.unusedSimpArgs false
set_option maxHeartbeats 30000000
set_option maxRecDepth 100000
namespace Go.Proofs.YtdagdllomphidaaGreatDoor.mt.pg
open _root_.Go.Proofs.Tryz Go Go.RowKit ib wi im mt
def mZ (v0 v1:Value):Array Value:=#[v0,v1,.int .u64 0,.int .u64 0,.int .u64 0,.int .u64 0,.int .i64 0,.int .i64 0,.slice none 0 0]
structure TK(w W:World)(gR gm kb rb pb c b:Nat)(s:St)(v0 v1:Value)(l:List Int)(xs:List bg):Prop where
 rd:Rd w c s W
 env:eL W kb rb pb c b
 res:qg W gR 93 (mZ (.slice none 0 0) (.slice none 0 0))
 m:qg W gm 93 (mZ v0 v1)
 live:zu W w.heap.size v0 l
 row:wE W w.heap.size v1 xs
 rn:w.heap.size≤gR
 gn:gR<gm
section
variable {w W W':World} {gR gm kb rb pb c b:Nat} {s s':St} {v0 v1:Value} {l:List Int} {xs:List bg}
theorem TK.next(h:TK w W gR gm kb rb pb c b s v0 v1 l xs)(hr:Rd W c s' W'):TK w W' gR gm kb rb pb c b s' v0 v1 l xs :=
 ⟨h.rd.trans hr,h.env.rd h.rd.ps.blk hr,hr.blk h.res h.rd.ps.blk (by decide),hr.blk h.m h.rd.ps.blk (by decide),dX h.live (hr.kp h.rd.ps) (by decide),h.row.kp (hr.kp h.rd.ps) (by decide) (by decide),h.rn,h.gn⟩
theorem eL.kp{kb rb pb c b:Nat}(h:eL W kb rb pb c b)(hk:Kp 93 W W'):eL W' kb rb pb c b:=⟨⟨hk _ _ _ (by decide) h.e.k,hk _ _ _ (by decide) h.e.r⟩,hk _ _ _ (by decide) h.p⟩
theorem TK.q2C{l':List Int}(h:TK w W gR gm kb rb pb c b s v0 v1 l xs)(v:Value)(hv:zu W w.heap.size v l'):TK w (W.setCell ⟨gm,0,none⟩ v) gR gm kb rb pb c b s v v1 l' xs:=by
 have hk:=Kp.wX 0 v h.m;have:=h.rn;have:=h.gn;exact⟨h.rd.set h.m (by omega) (by decide) (by decide) 0 v,h.env.kp hk,h.res.of_block (qE _ _ _ _ _ (by omega)),h.m.qo 0 v,dX hv hk (by decide),h.row.kp hk (by decide) (by decide),h.rn,h.gn⟩
theorem TK.q2D{xs':List bg}(h:TK w W gR gm kb rb pb c b s v0 v1 l xs)(v:Value)(hv:wE W w.heap.size v xs'):TK w (W.setCell ⟨gm,1,none⟩ v) gR gm kb rb pb c b s v0 v l xs':=by
 have hk:=Kp.wX 1 v h.m;have:=h.rn;have:=h.gn;exact⟨h.rd.set h.m (by omega) (by decide) (by decide) 1 v,h.env.kp hk,h.res.of_block (qE _ _ _ _ _ (by omega)),h.m.qo 1 v,dX h.live hk (by decide),hv.kp hk (by decide) (by decide),h.rn,h.gn⟩
end
theorem qn2{w W:World}{b c n g:Nat}{s:St}{xs:List bg}{B:Nat}(h:Sn b c n g s w n xs W)(hg:B≤g)(hB:B≤w.heap.size)(hn:n≤1000):wE W B (.slice (some ⟨g,0,none⟩) n n) xs:=by
 have hr:=h.row;rw[Nat.sub_self,List.replicate_zero,List.append_nil]at hr;have hl:=h.len;refine⟨⟨by rw[ya],.inr ⟨g,n,(qW xs).toArray,by rw[hl],hg,hr,by omega,by unfold maxLen;omega,by rw[List.size_toArray,ya,hl],?_⟩⟩,fun x hx=>qjq (h.qj x hx) hB⟩;rw[List.take_of_length_le (by rw[ya];omega)]
theorem qgx{a W:World}{c gm:Nat}{s:St}{cs:Array Value}{v:Value}{t:Tk}(h:Rd a c s W)(hm:qg W gm 93 cs)(hn:a.heap.size≤gm):Rd a c s (xS W gm v t):=by
 have go:∀(k:Nat) (u:Value) {W':World},(Rd a c s W'∧∃cs,qg W' gm 93 cs)→(Rd a c s (W'.setCell ⟨gm,k,none⟩ u)∧∃cs,qg (W'.setCell ⟨gm,k,none⟩ u) gm 93 cs):=fun k u W' ⟨h1,cs,h2⟩=>⟨h1.set h2 hn (by decide) (by decide) k u,_,h2.qo k u⟩;exact(go 8 v (go 7 _ (go 6 _ (go 5 _ (go 4 _ (go 3 _ (go 2 _ ⟨h,cs,hm⟩))))))).1
theorem qgy{W:World}{g:Nat}{v:Value}{t:Tk}{cs:Array Value}(h:qg W g 93 cs):Kp 93 W (xS W g v t):=by
 have go:∀(k:Nat) (u:Value) {W':World},Kp 93 W W'∧(∃cs,qg W' g 93 cs)→Kp 93 W (W'.setCell ⟨g,k,none⟩ u)∧(∃cs,qg (W'.setCell ⟨g,k,none⟩ u) g 93 cs):=fun k u W' ⟨h1,cs,h2⟩ =>
  ⟨h1.trans (Kp.wX k u h2),_,h2.qo k u⟩
 exact(go 8 v (go 7 _ (go 6 _ (go 5 _ (go 4 _ (go 3 _ (go 2 _ ⟨Kp.refl _ _,_,h⟩))))))).1
theorem aB {W:World}{g:Nat}{v0 v1 v:Value}{t:Tk}(h:qg W g 93 (mZ v0 v1)):qg (xS W g v t) g 93 (mC v0 v1 v t):=by
 have h9:=((((((h.qo 2 (.int .u64 (t.base.1:Int))).qo 3 (.int .u64 (t.base.2:Int))).qo 4 (.int .u64 (t.target.1:Int))).qo 5 (.int .u64 (t.target.2:Int))).qo 6 (.int .i64 t.next)).qo 7 (.int .i64 t.all)).qo 8 v;simp only[mZ,List.setIfInBounds_toArray,List.set_cons_succ,List.set_cons_zero]at h9;exact h9
theorem qcS{W:World}{g j:Nat}{v:Value}{t:Tk}(hj:j≠g):(xS W g v t).heap[j]?=W.heap[j]? :=by
 unfold xS;rw[qE _ _ _ _ _ hj,qE _ _ _ _ _ hj,qE _ _ _ _ _ hj,qE _ _ _ _ _ hj,qE _ _ _ _ _ hj,qE _ _ _ _ _ hj,qE _ _ _ _ _ hj]
structure Fin(w W:World)(gR gm c:Nat)(v0 v1 v2:Value)(m:Mt):Prop where
 but:qB (Tc c) w W
 res:qg W gR 93 (mZ (.slice none 0 0) (.slice none 0 0))
 mm:qg W gm 93 (mC v0 v1 v2 m.tok)
 at_:∃xs,zu W w.heap.size v0 m.live∧wE W w.heap.size v1 xs∧zu W w.heap.size v2 m.tok.qj∧xs.map (·.1)=m.qa
 ok:qa4 m.live m.qa∧fW m.tok
 rn:w.heap.size≤gR
structure Own(w:World)(B:Nat)(v0 v1 v2:Value)(m:Mt):Prop where
 at_:∃xs,zu w B v0 m.live∧wE w B v1 xs∧zu w B v2 m.tok.qj∧xs.map (·.1)=m.qa
 ok:qa4 m.live m.qa∧fW m.tok
theorem Own.kp{w w':World}{B:Nat}{v0 v1 v2:Value}{m:Mt}{r:TypeId}(h:Own w B v0 v1 v2 m)(hk:Kp r w w')(h1:145≠r)(h2:3≠r):Own w' B v0 v1 v2 m:=by
 obtain⟨xs,a,b,c,d⟩:=h.at_;exact⟨⟨xs,dX a hk h2,b.kp hk h1 h2,dX c hk h2,d⟩,h.ok⟩
theorem Own.mt{w:World}{B:Nat}{v0 v1 v2:Value}{m:Mt}(h:Own w B v0 v1 v2 m):rL w (.agg (mC v0 v1 v2 m.tok)) m:=by
 obtain⟨xs,a,b,c,d⟩:=h.at_;have:=qn1 a b c (by rw[d];exact h.ok.1) h.ok.2;rw[d]at this;exact this
def qp8 (c:Nat)(s:St)(w:World)(e:Ending)(w':World):Prop:=∃v0 v1 v2,e=.returned (.agg (mC v0 v1 v2 (mP s).tok))∧Own w' w.heap.size v0 v1 v2 (mP s)∧qB (Tc c) w w'
theorem Fin.done{w W:World}{gR gm c:Nat}{v0 v1 v2:Value}{m:Mt}(h:Fin w W gR gm c v0 v1 v2 m):qg (xz W gR v0 v1 v2 m.tok) gR 93 (mC v0 v1 v2 m.tok)∧Own (xz W gR v0 v1 v2 m.tok) w.heap.size v0 v1 v2 m∧qB (Tc c) w (xz W gR v0 v1 v2 m.tok):=by
 have hk:=qa5 (v0:=v0) (v1:=v1) (v2:=v2) (t:=m.tok) h.res;obtain⟨xs,h1,h2,h3,h4⟩:=h.at_;have hr:qg W gR 93 (mC nlS nlS nlS zL):=h.res;have ha:Own (xz W gR v0 v1 v2 m.tok) w.heap.size v0 v1 v2 m:=Own.kp ⟨h.at_,h.ok⟩ hk (by decide) (by decide);have hb:qB (Tc c) w (xz W gR v0 v1 v2 m.tok):=by
  have go:∀(k:Nat) (u:Value) {W':World},qB (Tc c) w W'→qB (Tc c) w (W'.setCell ⟨gR,k,none⟩ u):=fun k u W' h1=>h1.setCell _ _ (.inr h.rn);exact go 8 _ (go 7 _ (go 6 _ (go 5 _ (go 4 _ (go 3 _ (go 2 _ (go 1 _ (go 0 _ h.but))))))))
 exact⟨pq hr,ha,hb⟩
theorem qeK{W:World}{g:Nat}{v0 v1 v2:Value}{t:Tk}(h:qg W g 93 (mC v0 v1 v2 t)):(loadVar 93 ⟨g,0,none⟩).run prog W=.ok (.agg (mC v0 v1 v2 t)) W :=
 run_loadVar_row W g 93 93 _ (0,0) _ h underlying93 rfl (by kernel_rfl)
theorem qjJ{W:World}{g:Nat}{v0 v1 v2:Value}{t:Tk}(h:qg W g 93 (mC v0 v1 v2 t))(tm:Array Value)(hp:tm.getD 2 undef=.pointer (some ⟨g,0,none⟩)) :
    (results Tryz.f91 tm).run prog W=.ok (.agg (mC v0 v1 v2 t)) W:=by
 have hl:=qeK h;generalize mC v0 v1 v2 t=X at *;exact xf results91 tm _ _ ⟨g,0,none⟩ _ hp hl
theorem qa6{w WE:World}{gR c:Nat}{s:St}{v0 v1 v2:Value}{m:Mt}(a:Act)(ha:a.defers=[])(hp:a.tmps.getD 2 undef=.pointer (some ⟨gR,0,none⟩))(hm:mP s=m)
    (h:qg WE gR 93 (mC v0 v1 v2 m.tok)∧Own WE w.heap.size v0 v1 v2 m∧qB (Tc c) w WE):bodyPost prog Tryz.f91 (qp8 c s w) .ret a WE :=
 bodyPost_ret (qjJ h.1 a.tmps hp) ha ⟨v0,v1,v2,by rw[hm],by rw[hm];exact h.2.1,h.2.2⟩
theorem yM {w:World}{c:Nat}{s:St}(h:PS w c s):Calls prog 91 #[ptr c] w (qp8 c s w):=by
 have HP0:=QH h;have hb1:=(Below.refl w.heap.size w).alloc (Nat.le_refl _) (.cells #[ptr c] 161);have hr1:Rd w c s (w.alloc (.cells #[ptr c] 161)):=⟨qB.of_below hb1,h.below hb1⟩;have ha1:=qg.new w 161 #[ptr c];obtain⟨W1,hW1⟩:=QE (w.alloc (.cells #[ptr c] 161));rw[hW1]at hr1 ha1 hb1;have hb2:=(Below.refl W1.heap.size W1).alloc (Nat.le_refl _) (.cells (mZ (.slice none 0 0) (.slice none 0 0)) 93);have hr2:=hr1.new hb2;have ha2:=qg.new W1 93 (mZ (.slice none 0 0) (.slice none 0 0));obtain⟨W2,hW2⟩:=QE (W1.alloc (.cells (mZ (.slice none 0 0) (.slice none 0 0)) 93));rw[hW2]at hr2 ha2 hb2;have uQ:=QH hr2;have qG:=QH (ha1.below hb2);have dC:=QH ha2;have HRN:Hid (w.heap.size≤W1.heap.size):=hb1.size;obtain⟨gR,hgR⟩:=QE W1.heap.size;rw[hgR]at dC HRN;obtain⟨rb,hrb⟩:=QE w.heap.size;have HRB:=QH hrb;have hB2:=qG.out;rw[hrb]at hB2;have tY:=QH hB2;have r0:=hB2.cell 0;simp only[QA,QB,QC]at r0;have hlr:=hB2.lt;clear h hb1 hr1 ha1 hb2 hr2 ha2 hB2 qG;unfold mZ at hW2;go_enter func91,ntmps91;go_upto_region 1 with fail;try rw[hrb]
 try rw[hW1]
 try rw[hW2]
 try rw[hgR]
 clear hW1 hW2 hgR hrb;go_wp2_with fail;refine(wZ uQ.out.ps 8 8 rfl (by omega)).mono ?_;rintro e W3 ⟨rfl,hq⟩;have qt2:=uQ.out.trans hq;have hA3:=hq.blk dC.out uQ.out.ps.blk (by decide);have hX3:=hq.blk tY.out uQ.out.ps.blk (by decide);clear hq dC tY r0 hlr uQ;have hbb:=eF 8 s;obtain⟨b,hbE⟩:=QE ((jP 8 s).1);rw[hbE]at hbb ⊢;have HBE:=QH hbE;obtain⟨s1,hs1⟩:=QE ((jP 8 s).2);rw[hs1]at qt2;have eJ:=QH hs1;have HBB:=QH hbb;clear hs1 hbE hbb;have hb4:=(Below.refl W3.heap.size W3).alloc (Nat.le_refl _) (.cells #[.int .i64 (b:Int)] 3);have hK4:=qg.new W3 3 #[.int .i64 (b:Int)];obtain⟨W4,tZ⟩:=QE (W3.alloc (.cells #[.int .i64 (b:Int)] 3));rw[tZ]at hb4 hK4;obtain⟨kb,hkb⟩:=QE W3.heap.size;rw[hkb]at hK4;have qxa:=QH (qt2.new hb4);have iF:=QH (hA3.below hb4);have HX4:=QH (hX3.below hb4);have pw:=QH hK4;clear qt2 hA3 hX3 hb4 hK4;go_upto_region 2 with fail;try rw[hkb]
 try rw[tZ]
 clear tZ hkb;have hb5:=(Below.refl W4.heap.size W4).alloc (Nat.le_refl _) (.cells #[plF kb rb] 209);have hP5:=qg.new W4 209 #[plF kb rb];obtain⟨W5,et⟩:=QE (W4.alloc (.cells #[plF kb rb] 209));rw[et]at hb5 hP5;obtain⟨pb,hpb⟩:=QE W4.heap.size;rw[hpb]at hP5;have qxb:=QH (qxa.out.new hb5);have HA5:=QH (iF.out.below hb5);have HE5:Hid (eL W5 kb rb pb c b):=⟨⟨pw.out.below hb5,HX4.out.below hb5⟩,hP5⟩;clear qxa iF HX4 pw hb5 hP5;go_upto_region 3 with fail;try rw[hpb]
 try rw[et]
 clear et hpb;have jQ:=(Below.refl W5.heap.size W5).alloc (Nat.le_refl _) (.cells (mZ (.slice none 0 0) (.slice none 0 0)) 93);have hM6:=qg.new W5 93 (mZ (.slice none 0 0) (.slice none 0 0));obtain⟨W6,hW6⟩:=QE (W5.alloc (.cells (mZ (.slice none 0 0) (.slice none 0 0)) 93));rw[hW6]at jQ hM6;have HGN:Hid (gR<W5.heap.size):=HA5.out.lt;obtain⟨gm,hgm⟩:=QE W5.heap.size;rw[hgm]at hM6 HGN;have iQ:Hid (TK w W6 gR gm kb rb pb c b s1 (.slice none 0 0) (.slice none 0 0) [] []):=⟨qxb.out.new jQ,HE5.out.below jQ,HA5.out.below jQ,hM6,qjr _ _,wE.nil _ _,HRN.out,HGN.out⟩;clear qxb HA5 HE5 jQ hM6;unfold mZ at hW6;go_upto_region 4 with fail;try rw[hgm]
 try rw[hW6]
 clear hW6 hgm;have p0:=iQ.out.env.p.cell 0;simp only[QA,QB,QC]at p0;have hlp:=iQ.out.env.p.lt;go_wp2_with fail;refine(kM (by have:=HBB.out;omega) iQ.out.rd.ps iQ.out.env.e.k iQ.out.env.e.r).mono ?_;rintro e W7 ⟨g0,rfl,hg0,qxc,hq⟩;have HT7:=QH (iQ.out.next hq);have hv:=qj9 (B:=w.heap.size) qxc (by have:=iQ.out.rd.but.size;omega) (by rw[kj];have:=HBB.out;omega);rw[kj]at hv;have iD:=QH hv;clear hq hv hg0 qxc p0 hlp iQ;have HLV:Hid (wA b s1=fN s):=by unfold Hid fN;rw[HBE.out,eJ.out]
 obtain⟨ls,hls⟩:=QE (wA b s1);rw[hls]at HT7 iD HLV;clear hls;obtain⟨l,hl⟩:=QE ls.1;rw[hl]at iD;have HLE:=QH hl;clear hl;have q0:=HT7.out.m.cell 0;simp only[mZ,QA,QB,QC]at q0;have f0:=HT7.out.m.frozen 0;have hlm:=HT7.out.m.lt;have HT8:=QH (HT7.out.q2C (.slice (some ⟨g0,0,none⟩) b b) iD.out);obtain⟨W8,hW8⟩:=QE (W7.setCell ⟨gm,0,none⟩ (.slice (some ⟨g0,0,none⟩) b b));rw[hW8]at HT8;clear HT7 iD;go_upto_region 5 with fail;try rw[hW8]
 clear hW8 q0 f0 hlm;have r0:=HT8.out.env.e.r.cell 0;simp only[QA,QB,QC]at r0;have hlr:=HT8.out.env.e.r.lt;go_wp2_with fail;refine(wZ HT8.out.rd.ps 20 20 rfl (by omega)).mono ?_;rintro e W9 ⟨rfl,hq⟩;have tX:=QH (HT8.out.next hq);clear hq r0 hlr HT8;have hnb:=eF 20 ls.2;obtain⟨n,hnE⟩:=QE ((jP 20 ls.2).1);rw[hnE]at hnb ⊢;have rS:=QH hnE;have HNB:=QH hnb;clear hnE hnb;go_wp2_with fail;refine(qnz n (by have:=HNB.out;omega) (by have:=HBB.out;omega) tX.out.rd.ps tX.out.env).mono ?_;rintro e W10 ⟨gs,xs,rfl,hgs,hsn⟩;have o9:=QH (tX.out.next hsn.rd);have HW9:Hid (w.heap.size≤W9.heap.size):=tX.out.rd.but.size;have HV1:=QH (qn2 (B:=w.heap.size) hsn (by have:=HW9.out;omega) HW9.out (by have:=HNB.out;omega));have HSE:Hid (xs.map (·.1)=(kJ b n (jP 20 ls.2).2).1):=hsn.is;have HXL:Hid (xs.length=n):=hsn.len;clear hsn hgs tX;have HAL:Hid (kJ b n (jP 20 ls.2).2=qcy s):=by unfold Hid qcy;rw[HBE.out,← HLV.out,rS.out]
 obtain⟨ss,hss⟩:=QE (kJ b n (jP 20 ls.2).2);rw[hss]at o9 HSE HAL;have HSO:Hid (∀x∈ss.1,ye x.qj∧x.qj.length=b∧xn x.g):=by rw[← hss];exact rF _ _ _
 clear hss;have q1:=o9.out.m.cell 1;simp only[mZ,QA,QB,QC]at q1;have f1:=o9.out.m.frozen 1;have hlm:=o9.out.m.lt;have eK:=QH (o9.out.q2D (.slice (some ⟨gs,0,none⟩) n n) HV1.out);obtain⟨W11,qt5⟩:=QE (W10.setCell ⟨gm,1,none⟩ (.slice (some ⟨gs,0,none⟩) n n));rw[qt5]at eK;clear o9 HV1;go_upto_region 6 with fail;try rw[qt5]
 clear qt5 q1 f1 hlm;have r0:=eK.out.env.e.r.cell 0;simp only[QA,QB,QC]at r0;have hlr:=eK.out.env.e.r.lt;go_wp2_with fail;refine(wY eK.out.rd.ps).mono ?_;rintro e W12 ⟨rfl,hq⟩;have uz:=QH (eK.out.next hq);clear hq r0 hlr eK;have HOK:Hid (qa4 l ss.1):=by
  have hl1:l.length=b∧ye l:=by
   rw[← HLE.out,HLV.out];unfold fN;rw[HBE.out];exact⟨kj _ _,rE _ _⟩
  refine⟨hl1.2,fun x hx=>⟨(HSO.out x hx).1,(HSO.out x hx).2.2,by have:=(HSO.out x hx).2.1;have:=HBB.out;omega⟩,by have:=HBB.out;omega,?_⟩;rw[← HSE.out,List.length_map,HXL.out];have:=HNB.out;omega
 have HMP:Hid (mP s=⟨l,ss.1,if (yc ss.2).1=1 then(nV b (yc ss.2).2).1 else zL⟩):=by unfold Hid mP;rw[← HLV.out,← HAL.out,HBE.out,HLE.out]
 obtain⟨fl,wC⟩:=QE ((yc ss.2).1);rw[wC]at HMP ⊢;obtain⟨s3,hs3⟩:=QE ((yc ss.2).2);rw[hs3]at HMP uz;clear wC hs3 HSO HAL HLV;by_cases h1:fl=1
 ·have hq:((fl:Int) == 1)=true:=by rw[h1];rfl
  have rT:Hid (mP s=⟨l,ss.1,(nV b s3).1⟩):=by unfold Hid;rw[HMP.out,if_pos h1]
  clear h1 HMP;have r0:=uz.out.env.e.r.cell 0;simp only[QA,QB,QC]at r0;have hlr:=uz.out.env.e.r.lt;have p0:=uz.out.env.p.cell 0;simp only[QA,QB,QC]at p0;have hlp:=uz.out.env.p.lt;go_wp2_with fail;refine(eI (by have:=HBB.out;omega) uz.out.rd.ps uz.out.env.e).mono ?_;rintro e W13 ⟨gt,rfl,hgt,qxd,hq⟩;have kq:=QH (uz.out.next hq);have HTL:Hid ((nV b s3).1.qj.length=b∧ye (nV b s3).1.qj∧(nV b s3).1.next≤9∧0≤(nV b s3).1.next∧(nV b s3).1.all≤9∧0≤(nV b s3).1.all):=by
   have e1:=eF 8 (uw (uw s3).2).2;have e2:=eF 8 (jP 8 (uw (uw s3).2).2).2;exact⟨kj _ _,rE _ _,by show((jP 8 (uw (uw s3).2).2).1:Int)≤9;omega,by show(0:Int)≤((jP 8 (uw (uw s3).2).2).1:Int);omega,by show((jP 8 (jP 8 (uw (uw s3).2).2).2).1:Int)≤9;omega,by show(0:Int)≤((jP 8 (jP 8 (uw (uw s3).2).2).2).1:Int);omega⟩
  have HTB:=QH (qiZ b s3);have hv:=qj9 (B:=w.heap.size) qxd (by have:=uz.out.rd.but.size;omega) (by rw[HTL.out.1];have:=HBB.out;omega);rw[HTL.out.1]at hv;obtain⟨t,ht⟩:=QE ((nV b s3).1);rw[ht]at hv HTL HTB rT;unfold wG;rw[ht,HTL.out.1];have HV2:=QH hv;clear hq hv hgt qxd r0 hlr p0 hlp uz ht;have vK:=kq.out.m;have m2:=vK.cell 2;have m3:=vK.cell 3;have m4:=vK.cell 4;have m5:=vK.cell 5;have m6:=vK.cell 6;have m7:=vK.cell 7;have m8:=vK.cell 8;simp only[mZ,QA,QB,QC]at m2 m3 m4 m5 m6 m7 m8;have f2:=vK.frozen 2;have f3:=vK.frozen 3;have f4:=vK.frozen 4;have f5:=vK.frozen 5;have f6:=vK.frozen 6;have f7:=vK.frozen 7;have f8:=vK.frozen 8;have hlm:=vK.lt;have hk:=qgy (v:=.slice (some ⟨gt,0,none⟩) b b) (t:=t) vK;have HF:Hid (Fin w (xS W13 gm (.slice (some ⟨gt,0,none⟩) b b) t) gR gm c (.slice (some ⟨g0,0,none⟩) b b) (.slice (some ⟨gs,0,none⟩) n n) (.slice (some ⟨gt,0,none⟩) b b) ⟨l,ss.1,t⟩) :=
   ⟨(qgx kq.out.rd vK (by have:=kq.out.rn;have:=kq.out.gn;omega)).but,kq.out.res.of_block (qcS (by have:=kq.out.gn;omega)),aB vK,
    ⟨xs,dX kq.out.live hk (by decide),kq.out.row.kp hk (by decide) (by decide),dX HV2.out hk (by decide),HSE.out⟩,
    ⟨HOK.out,⟨HTL.out.2.1,by show t.qj.length≤100;have:=HTL.out.1;have:=HBB.out;omega,HTB.out.1,HTB.out.2,by show qD t.next;unfold qD;have:=HTL.out;omega,by show qD t.all;unfold qD;have:=HTL.out;omega⟩⟩,kq.out.rn⟩
  obtain⟨W14,iE⟩:=QE (xS W13 gm (.slice (some ⟨gt,0,none⟩) b b) t);rw[iE]at HF;unfold xS at iE;clear kq HV2 hk vK;go_upto_region 8 with fail;try rw[iE]
  clear iE m2 m3 m4 m5 m6 m7 m8 f2 f3 f4 f5 f6 f7 f8 hlm;have m0:=HF.out.mm.cell 0;have m1:=HF.out.mm.cell 1;have m2:=HF.out.mm.cell 2;have m3:=HF.out.mm.cell 3;have m4:=HF.out.mm.cell 4;have m5:=HF.out.mm.cell 5;have m6:=HF.out.mm.cell 6;have m7:=HF.out.mm.cell 7;have m8:=HF.out.mm.cell 8;have a0:=HF.out.res.cell 0;have a1:=HF.out.res.cell 1;have a2:=HF.out.res.cell 2;have a3:=HF.out.res.cell 3;have a4:=HF.out.res.cell 4;have a5:=HF.out.res.cell 5;have a6:=HF.out.res.cell 6;have a7:=HF.out.res.cell 7;have a8:=HF.out.res.cell 8;simp only[mC,mZ,QA,QB,QC]at m0 m1 m2 m3 m4 m5 m6 m7 m8 a0 a1 a2 a3 a4 a5 a6 a7 a8;have f0:=HF.out.res.frozen 0;have f1:=HF.out.res.frozen 1;have f2:=HF.out.res.frozen 2;have f3:=HF.out.res.frozen 3;have f4:=HF.out.res.frozen 4;have f5:=HF.out.res.frozen 5;have f6:=HF.out.res.frozen 6;have f7:=HF.out.res.frozen 7;have f8:=HF.out.res.frozen 8;have hlm:=HF.out.mm.lt;have ep:=HF.out.res.lt;have HD:=QH HF.out.done;go_wp2_with fail;show bodyPost _ _ _ _ _ (xz W14 gR (.slice (some ⟨g0,0,none⟩) b b) (.slice (some ⟨gs,0,none⟩) n n) (.slice (some ⟨gt,0,none⟩) b b) t);obtain⟨WE,hWE⟩:=QE (xz W14 gR (.slice (some ⟨g0,0,none⟩) b b) (.slice (some ⟨gs,0,none⟩) n n) (.slice (some ⟨gt,0,none⟩) b b) t);have HD2:=HD.out;try dsimp only at HD2
  rw[hWE]at HD2 ⊢;have HD3:=QH HD2;clear HD2 hWE HD m0 m1 m2 m3 m4 m5 m6 m7 m8 a0 a1 a2 a3 a4 a5 a6 a7 a8 f0 f1 f2 f3 f4 f5 f6 f7 f8;exact qa6 (gR:=gR) (v0:=.slice (some ⟨g0,0,none⟩) b b) (v1:=.slice (some ⟨gs,0,none⟩) n n) (v2:=(.slice (some ⟨gt,0,none⟩) b b)) (m:=⟨l,ss.1,t⟩) _ rfl (by simp) rT.out HD3.out
 ·have hq:((fl:Int) == 1)=false:=by simp;omega
  have rT:Hid (mP s=⟨l,ss.1,zL⟩):=by unfold Hid;rw[HMP.out,if_neg h1]
  clear h1 HMP;have HF:Hid (Fin w W12 gR gm c (.slice (some ⟨g0,0,none⟩) b b) (.slice (some ⟨gs,0,none⟩) n n) (.slice none 0 0) ⟨l,ss.1,zL⟩) :=
   ⟨uz.out.rd.but,uz.out.res,uz.out.m,⟨xs,uz.out.live,uz.out.row,qjr _ _,HSE.out⟩,⟨HOK.out,qt0⟩,uz.out.rn⟩
  go_upto_region 8 with fail;have m0:=HF.out.mm.cell 0;have m1:=HF.out.mm.cell 1;have m2:=HF.out.mm.cell 2;have m3:=HF.out.mm.cell 3;have m4:=HF.out.mm.cell 4;have m5:=HF.out.mm.cell 5;have m6:=HF.out.mm.cell 6;have m7:=HF.out.mm.cell 7;have m8:=HF.out.mm.cell 8;have a0:=HF.out.res.cell 0;have a1:=HF.out.res.cell 1;have a2:=HF.out.res.cell 2;have a3:=HF.out.res.cell 3;have a4:=HF.out.res.cell 4;have a5:=HF.out.res.cell 5;have a6:=HF.out.res.cell 6;have a7:=HF.out.res.cell 7;have a8:=HF.out.res.cell 8;simp only[mC,mZ,QA,QB,QC]at m0 m1 m2 m3 m4 m5 m6 m7 m8 a0 a1 a2 a3 a4 a5 a6 a7 a8;have f0:=HF.out.res.frozen 0;have f1:=HF.out.res.frozen 1;have f2:=HF.out.res.frozen 2;have f3:=HF.out.res.frozen 3;have f4:=HF.out.res.frozen 4;have f5:=HF.out.res.frozen 5;have f6:=HF.out.res.frozen 6;have f7:=HF.out.res.frozen 7;have f8:=HF.out.res.frozen 8;have hlm:=HF.out.mm.lt;have ep:=HF.out.res.lt;have HD:=QH HF.out.done;go_wp2_with fail;show bodyPost _ _ _ _ _ (xz W12 gR (.slice (some ⟨g0,0,none⟩) b b) (.slice (some ⟨gs,0,none⟩) n n) (.slice none 0 0) zL);obtain⟨WE,hWE⟩:=QE (xz W12 gR (.slice (some ⟨g0,0,none⟩) b b) (.slice (some ⟨gs,0,none⟩) n n) (.slice none 0 0) zL);have HD2:=HD.out;try dsimp only at HD2
  rw[hWE]at HD2 ⊢;have HD3:=QH HD2;clear HD2 hWE HD m0 m1 m2 m3 m4 m5 m6 m7 m8 a0 a1 a2 a3 a4 a5 a6 a7 a8 f0 f1 f2 f3 f4 f5 f6 f7 f8;exact qa6 (gR:=gR) (v0:=.slice (some ⟨g0,0,none⟩) b b) (v1:=.slice (some ⟨gs,0,none⟩) n n) (v2:=(.slice none 0 0)) (m:=⟨l,ss.1,zL⟩) _ rfl (by simp) rT.out HD3.out
end Go.Proofs.YtdagdllomphidaaGreatDoor.mt.pg
namespace Go.Proofs.YtdagdllomphidaaGreatDoor.mt.pg
open _root_.Go.Proofs.Tryz Go Go.RowKit ib wi mt
def qn3 (r:List UInt8)(w:World)(e:Ending)(w':World):Prop:=e=.returned (.string (str r))∧Below w.heap.size w w'
def qxe (L:List UInt8)(l:List Int)(w:World)(v x i:Value)(wr:World):Prop :=
 ∃k:Nat,k≤l.length∧i=.int .i64 (k:Int)∧v=.string (str (L++zg (l.take k)))∧Below w.heap.size w wr
theorem qcT(l:List Int)(k:Nat)(h:k<l.length):zg (l.take (k+1))=zg (l.take k)++xU l[k]:=by
 unfold zg;rw[List.take_succ_eq_append_getElem h,List.flatMap_append];simp
theorem qz (n:Nat):(zn n).length≤9:=by
 unfold zn;have:=jh n;simp only[List.length_cons];omega
theorem ja:∀l:List Int,(zg l).length≤9*l.length
 | []=>by simp[zg]
 | z::l=>by
  have h1:=qz z.toNat;have h2:=ja l;simp only[zg,List.flatMap_cons,List.length_append,List.length_cons,xU]at h2 ⊢;omega
theorem kr (L:List UInt8)(A:Option Addr)(c:Nat)(l:List Int)(w:World)(hl:qJ w A l)(h0:∀z∈l,0≤z)(hs:L.length≤100000)(h1:l.length≤1000) :
    Calls prog 181 #[.string (str L),.slice A l.length c] w (qn3 (L++zg l) w):=by
 have HL:=QH hl;have HN:=QH h0;have HS:=QH hs;have HI0:Hid (str L=str (L++zg (l.take 0))):=by unfold Hid;simp[zg]
 clear hl h0 hs;obtain⟨P0,hP0⟩:=QE (str L);rw[hP0]at HI0 ⊢;clear hP0;go_enter func181,ntmps181;go_wp2_with fail;go_loopw [0,6,9] (fun v x i wr=>qxe L l w v x i wr) (fun _ _ i _=>l.length-(intOf i).toNat);case atStart=>exact⟨0,Nat.zero_le _,rfl,by rw[HI0.out],Below.refl _ _⟩
 case round =>
  obtain⟨k,hk,rfl,rfl,hb⟩:=hrel;have HB:=QH hb;clear hb;by_cases hlt:k<l.length
  ·have jY:(k:Int)<(l.length:Int):=by omega
   obtain⟨b,o,rfl,hbl,hc,hz⟩:=HL.out k hlt;have hz0:=HN.out l[k] (List.getElem_mem hlt);have wM:=QH (qcT l k hlt);have az:=QH (ja (l.take k));have e0:wr.cell? ⟨b,o+k,none⟩=some (.int .i64 l[k]):=by rw[HB.out.cell (p:=⟨b,o+k,none⟩) hbl];exact hc
   have l0:b<wr.heap.size:=Nat.lt_of_lt_of_le hbl HB.out.size;clear hc hbl;obtain⟨u,hu⟩:∃u:Nat,l[k]=(u:Int):=⟨l[k].toNat,by omega⟩;rw[hu]at e0;have q8C:(u:Int)≤9223372036854775807:=by rw[← hu];exact hz.2
   have HU:=QH hu;obtain⟨P,hP⟩:=QE (str (L++zg (l.take k)));have hPs:P.size≤140737488355000:=by
    rw[← hP,qO,List.length_append];have:=az.out;have:=HS.out;simp at *;omega
   have HP:=QH hP;have nQ:=QH hPs;rw[hP];clear hP hPs hu hz hz0;go_wp2_with fail;refine(jz P u wr (by omega) nQ.out).mono ?_;rintro e w' ⟨rfl,hb'⟩;have HB':=QH (q9 HB.out hb');clear hb';go_wp2_with fail;go_roundw;case rel =>
    refine⟨k+1,by omega,by go_num,?_,HB'.out⟩;rw[wM.out,HU.out,← HP.out,zo,List.append_assoc];rfl
   case measure=>simp[intOf];omega
  ·have jY:¬ (k:Int)<(l.length:Int):=by omega
   obtain rfl:k=l.length:=by omega
   rw[List.take_length];go_wp2_with fail;go_ret;exact⟨rfl,HB.out⟩
def qjK (w:World)(a:Option Addr)(l:List Nat):Prop :=
 ∀i (h:i<l.length),∃b o,a=some ⟨b,o,none⟩∧b<w.heap.size∧w.cell? ⟨b,o+i,none⟩=some (.int .u64 (l[i]:Int))∧l[i]<18446744073709551616
def uS (l:List Nat):List UInt8:=l.flatMap zn
theorem qcU(l:List Nat)(k:Nat)(h:k<l.length):uS (l.take (k+1))=uS (l.take k)++zn l[k]:=by
 unfold uS;rw[List.take_succ_eq_append_getElem h,List.flatMap_append];simp
theorem px:∀l:List Nat,(uS l).length≤9*l.length
 | []=>by simp[uS]
 | z::l=>by
  have h1:=qz z;have h2:=px l;simp only[uS,List.flatMap_cons,List.length_append,List.length_cons]at h2 ⊢;omega
def qxh (L:List UInt8)(l:List Nat)(w:World)(v x i:Value)(wr:World):Prop :=
 ∃k:Nat,k≤l.length∧i=.int .i64 (k:Int)∧v=.string (str (L++uS (l.take k)))∧Below w.heap.size w wr
theorem qa7(L:List UInt8)(A:Option Addr)(c:Nat)(l:List Nat)(w:World)(hl:qjK w A l)(hs:L.length≤100000)(h1:l.length≤1000) :
    Calls prog 182 #[.string (str L),.slice A l.length c] w (qn3 (L++uS l) w):=by
 have HL:=QH hl;have HS:=QH hs;have HI0:Hid (str L=str (L++uS (l.take 0))):=by unfold Hid;simp[uS]
 clear hl hs;obtain⟨P0,hP0⟩:=QE (str L);rw[hP0]at HI0 ⊢;clear hP0;go_enter func182,ntmps182;go_wp2_with fail;go_loopw [0,6,9] (fun v x i wr=>qxh L l w v x i wr) (fun _ _ i _=>l.length-(intOf i).toNat);case atStart=>exact⟨0,Nat.zero_le _,rfl,by rw[HI0.out],Below.refl _ _⟩
 case round =>
  obtain⟨k,hk,rfl,rfl,hb⟩:=hrel;have HB:=QH hb;clear hb;by_cases hlt:k<l.length
  ·have jY:(k:Int)<(l.length:Int):=by omega
   obtain⟨b,o,rfl,hbl,hc,hz⟩:=HL.out k hlt;have wM:=QH (qcU l k hlt);have az:=QH (px (l.take k));have e0:wr.cell? ⟨b,o+k,none⟩=some (.int .u64 (l[k]:Int)):=by rw[HB.out.cell (p:=⟨b,o+k,none⟩) hbl];exact hc
   have l0:b<wr.heap.size:=Nat.lt_of_lt_of_le hbl HB.out.size;clear hc hbl;obtain⟨u,hu⟩:=QE (l[k]:Nat);rw[hu]at e0 hz;have HU:=QH hu;have HZ:=QH hz;obtain⟨P,hP⟩:=QE (str (L++uS (l.take k)));have hPs:P.size≤140737488355000:=by
    rw[← hP,qO,List.length_append];have:=az.out;have:=HS.out;simp at *;omega
   have HP:=QH hP;have nQ:=QH hPs;rw[hP];clear hP hPs hu hz;go_wp2_with fail;refine(jz P u wr HZ.out nQ.out).mono ?_;rintro e w' ⟨rfl,hb'⟩;have HB':=QH (q9 HB.out hb');clear hb';go_wp2_with fail;go_roundw;case rel =>
    refine⟨k+1,by omega,by go_num,?_,HB'.out⟩;rw[wM.out,HU.out,← HP.out,zo,List.append_assoc]
   case measure=>simp[intOf];omega
  ·have jY:¬ (k:Int)<(l.length:Int):=by omega
   obtain rfl:k=l.length:=by omega
   rw[List.take_length];go_wp2_with fail;go_ret;exact⟨rfl,HB.out⟩
theorem lC (b:Bool)(w:World):Calls prog 183 #[.bool b] w (fun e w'=>e=.returned (.int .i64 (if b then 1 else 0))∧w'=w):=by
 cases b
 ·go_enter func183,ntmps183;go_wp2_with fail;go_ret;exact⟨rfl,rfl⟩
 ·go_enter func183,ntmps183;go_wp2_with fail;go_ret;exact⟨rfl,rfl⟩
theorem bu (s:ByteArray)(w:World)(hs:s.size≤4611686018427387904) :
    Calls prog 180 #[.string s] w fun e w'=>e=.returned (.int .i64 (nsec s.size:Int))∧w'=w:=by
 have e1:(nsec s.size:Int)=(s.size:Int)/32+(6+(s.size:Int)%32+32-1)/32:=by unfold nsec;omega
 have E1:=QH e1;clear e1;go_enter func180,ntmps180;go_wp2;go_ret;exact⟨by rw[E1.out];rfl,rfl⟩
def qg2 (l:List UInt8):List UInt8 × Int:=if 48<nsec l.length then([],3)else(l,0)
theorem qn4(l:List UInt8)(w:World)(hs:l.length≤100000):Calls prog 146 #[.string (str l)] w (fun e w'=>e=.returned (.tuple #[.string (str (qg2 l).1),.int .i64 (qg2 l).2])∧w'=w):=by
 have HZ:=QH (bu (str l) w (by rw[qO];omega));rw[qO]at HZ;have HR:Hid (qg2 l=if 48<nsec l.length then([],3)else(l,0)):=rfl;obtain⟨n,hn⟩:=QE (nsec l.length);rw[hn]at HZ HR;obtain⟨S,hS⟩:=QE (str l);have HS:=QH hS;rw[hS]at HZ ⊢;clear hS hn;by_cases h:48<n
 ·have hi:(48:Int)<(n:Int):=by omega
  have uQ:Hid (qg2 l=([],3)):=by unfold Hid;rw[HR.out,if_pos h]
  clear h;go_enter func146,ntmps146;go_wp2_with fail;refine HZ.out.mono ?_;rintro e _ ⟨rfl,rfl⟩;go_wp2_with fail;go_ret2;exact⟨by rw[uQ.out];rfl,rfl⟩
 ·have hi:¬ (48:Int)<(n:Int):=by omega
  have uQ:Hid (qg2 l=(l,0)):=by unfold Hid;rw[HR.out,if_neg h]
  clear h;go_enter func146,ntmps146;go_wp2_with fail;refine HZ.out.mono ?_;rintro e _ ⟨rfl,rfl⟩;go_wp2_with fail;go_ret2;exact⟨by rw[uQ.out,HS.out];rfl,rfl⟩
end Go.Proofs.YtdagdllomphidaaGreatDoor.mt.pg
namespace Go.Proofs.YtdagdllomphidaaGreatDoor.mt.pg
open _root_.Go.Proofs.Tryz Go Go.RowKit ib wi im mt
theorem lD (t:Tk)(A:Option Addr)(c:Nat)(w:World)(h:yx w A t.qj c)(hl:t.qj.length≤1000):Calls prog 153 #[.agg (wG t A c)] w (wU (decide (t=zL)) w):=by
 have hb:=(Below.refl w.heap.size w).alloc (Nat.le_refl _) (.cells (wG t A c) 59);have ha:=qg.new w 59 (wG t A c);obtain⟨W,hW⟩:=QE (w.alloc (.cells (wG t A c) 59));rw[hW]at hb ha;have HT:=QH (nZ t zL A none c 0 W (h.below hb) (yx.none _) hl);have HB:=QH hb;have a0:=ha.cell 0;have a1:=ha.cell 1;have a2:=ha.cell 2;have a3:=ha.cell 3;have a4:=ha.cell 4;have a5:=ha.cell 5;have a6:=ha.cell 6;have ep:=ha.lt;simp only[wG,QA,QB,QC]at a0 a1 a2 a3 a4 a5 a6;clear hb ha h hl;unfold wG at hW ⊢;go_enter func153,ntmps153;go_upto_region 1 with fail;try rw[hW]
 clear hW;go_wp2_with fail;refine HT.out.mono ?_;rintro e W9 ⟨rfl,hb9⟩;have HB9:=QH (q9 HB.out hb9);clear hb9 a0 a1 a2 a3 a4 a5 a6 ep;go_wp2_with fail;go_ret;exact⟨rfl,HB9.out⟩
theorem qcV(b n:Int)(last:Gd):kG b n last zL=0:=by unfold kG;rw[if_pos (show zL.target=(0,0)from rfl),if_pos (show rA zL=true by decide)]
theorem qcW(last:Gd):above (0,0) last=false:=by unfold above;simp
theorem qg3{b n:Int}{last:Gd}{t:Tk}(h:t≠zL)(hb:wS t last b=true):kG b n last t=2:=by
 unfold kG;by_cases h0:t.target=(0,0)
 ·rw[if_pos h0,if_neg];intro h1;apply h;unfold rA at h1;simp only[Bool.and_eq_true,decide_eq_true_eq]at h1;obtain⟨⟨⟨e1,e2⟩,e3⟩,e4⟩:=h1;cases t;simp only at e1 e2 e3 e4 h0;subst e1 e2 e3 e4 h0;rfl
 ·rw[if_neg h0,if_pos hb]
theorem qcX{b n:Int}{last:Gd}{t:Tk}(hb:wS t last b=false):kG b n last t=zD t.qj b n:=by
 unfold kG;rw[if_neg,if_neg (by rw[hb];decide)];intro h0;unfold wS at hb;rw[h0,qcW]at hb;simp at hb
theorem lF (t:Tk)(A:Option Addr)(c:Nat)(last:Gd)(b n:Int)(w:World)(h:yx w A t.qj c)(hl:t.qj.length≤1000)(hb:qD b)(hn:qD n) :
    Calls prog 96 #[.agg (wG t A c),gv last,.int .i64 b,.int .i64 n] w (qga (kG b n last t) w):=by
 have HN:=QH (And.intro hb hn);have HL:=QH hl;have hb1:=(Below.refl w.heap.size w).alloc (Nat.le_refl _) (.cells (wG t A c) 59);have ha1:=qg.new w 59 (wG t A c);obtain⟨W1,hW1⟩:=QE (w.alloc (.cells (wG t A c) 59));rw[hW1]at hb1 ha1;have hb2:=(Below.refl W1.heap.size W1).alloc (Nat.le_refl _) (.cells #[.int .u64 (last.1:Int),.int .u64 (last.2:Int)] 55);have ha2:=qg.new W1 55 #[.int .u64 (last.1:Int),.int .u64 (last.2:Int)];obtain⟨W2,hW2⟩:=QE (W1.alloc (.cells #[.int .u64 (last.1:Int),.int .u64 (last.2:Int)] 55));rw[hW2]at hb2 ha2;have HB:=QH (q9 hb1 hb2);have HA:=QH (ha1.below hb2);have HG:=QH ha2;have HI:=QH (h.below HB.out);have HT:=QH (lD t A c W2 HI.out hl);have a0:=HA.out.cell 0;have a1:=HA.out.cell 1;have a2:=HA.out.cell 2;have a3:=HA.out.cell 3;have a4:=HA.out.cell 4;have a5:=HA.out.cell 5;have a6:=HA.out.cell 6;have ep:=HA.out.lt;simp only[wG,QA,QB,QC]at a0 a1 a2 a3 a4 a5 a6;clear hb1 ha1 hb2 ha2 h hl hb hn;obtain⟨res,hres⟩:=QE (kG b n last t);rw[hres];have xB:=QH hres;clear hres;unfold wG at hW1 ⊢;unfold gv;go_enter func96,ntmps96;go_upto_region 1 with fail;try rw[hW2]
 clear hW1 hW2;obtain⟨gg,hgg⟩:=QE W1.heap.size;rw[hgg]at HG;try rw[hgg]
 clear hgg;go_wp2_with fail;refine HT.out.mono ?_;rintro e W3 ⟨rfl,hb3⟩;have zf:=QH (q9 HB.out hb3);have hA:=HA.out.below hb3;have hG:=HG.out.below hb3;have HI3:=QH (HI.out.below hb3);have fT:=QH hA;have HG3:=QH hG;have a0:=hA.cell 0;have a1:=hA.cell 1;have a2:=hA.cell 2;have a3:=hA.cell 3;have a4:=hA.cell 4;have a5:=hA.cell 5;have a6:=hA.cell 6;have g0:=hG.cell 0;have g1:=hG.cell 1;have ep:=hA.lt;have hlg:=hG.lt;simp only[wG,QA,QB,QC]at a0 a1 a2 a3 a4 a5 a6 g0 g1;clear hb3 hA hG HA HG HI;by_cases h0:t=zL
 case' pos =>
  rw[decide_eq_true h0];have HR:Hid (res=0):=by unfold Hid;rw[← xB.out,h0,qcV]
  clear h0;go_wp2_with fail;go_ret;exact⟨by rw[HR.out];rfl,zf.out⟩
 rw[decide_eq_false h0];have uK:Hid (wS t last b=true→res=2):=fun hq=>by rw[← xB.out];exact qg3 h0 hq
 have q2I:Hid (wS t last b=false→res=zD t.qj b n):=fun hq=>by rw[← xB.out];exact qcX hq
 have qg4:Hid (wS t last b=(!decide (t.base=last) || !above t.target last || decide (t.next<1) || decide (t.all≤t.next) || decide (b<t.all))):=rfl;clear h0 xB;by_cases h1:t.base=last
 case' neg =>
  have HR:Hid (res=2):=uK.out (by rw[qg4.out,decide_eq_false h1];simp);have hgn:=oZ h1;clear h1;rcases hgn with hgn|⟨hgn,qwO⟩
  ·go_wp2_with fail;go_ret;exact⟨by rw[HR.out];rfl,zf.out⟩
  ·go_wp2_with fail;go_ret;exact⟨by rw[HR.out];rfl,zf.out⟩
 rw[h1]at a0 a1;have H1:=QH h1;have HAB:=QH (oV t.target last W3);clear h1;unfold gv at HAB;go_wp2_with fail;refine HAB.out.mono ?_;rintro e W4 ⟨rfl,hb4⟩;have zU:=QH (q9 zf.out hb4);have hA:=fT.out.below hb4;have HI4:=QH (HI3.out.below hb4);have a4:=hA.cell 4;have a5:=hA.cell 5;have a6:=hA.cell 6;have ep:=hA.lt;simp only[wG,QA,QB,QC]at a4 a5 a6;clear hb4 hA a0 a1 a2 a3 g0 g1 hlg fT HG3 HI3;obtain⟨q,hq⟩:=QE (above t.target last);rw[hq];cases q with
 | false =>
  have HR:Hid (res=2):=uK.out (by rw[qg4.out,hq];simp);clear hq;go_wp2_with fail;go_ret;exact⟨by rw[HR.out];rfl,zU.out⟩
 | true =>
  have HQ:=QH hq;clear hq;by_cases h2:t.next<1
  ·have HR:Hid (res=2):=uK.out (by rw[qg4.out,decide_eq_true h2];simp);go_wp2_with fail;go_ret;exact⟨by rw[HR.out];rfl,zU.out⟩
  by_cases h3:t.all≤t.next
  ·have HR:Hid (res=2):=uK.out (by rw[qg4.out,decide_eq_true h3];simp);go_wp2_with fail;go_ret;exact⟨by rw[HR.out];rfl,zU.out⟩
  by_cases h4:b<t.all
  ·have HR:Hid (res=2):=uK.out (by rw[qg4.out,decide_eq_true h4];simp);go_wp2_with fail;go_ret;exact⟨by rw[HR.out];rfl,zU.out⟩
  have HR:Hid (res=zD t.qj b n):=q2I.out (by rw[qg4.out,HQ.out,decide_eq_true H1.out,decide_eq_false h2,decide_eq_false h3,decide_eq_false h4];rfl);go_wp2_with fail;refine(aA A c t.qj b n W4 HI4.out HL.out HN.out.1 HN.out.2).mono ?_;rintro e W5 ⟨rfl,hb5⟩;have jt:=QH (q9 zU.out hb5);rw[← HR.out];clear hb5 a4 a5 a6 ep h2 h3 h4;go_wp2_with fail;go_ret;exact⟨rfl,jt.out⟩
end Go.Proofs.YtdagdllomphidaaGreatDoor.mt.pg
namespace Go.Proofs.YtdagdllomphidaaGreatDoor.mt
open _root_.Go.Proofs.Tryz Go Go.RowKit Go.Sort ib
end Go.Proofs.YtdagdllomphidaaGreatDoor.mt
namespace Go.Proofs.YtdagdllomphidaaGreatDoor.im
open _root_.Go.Proofs.Tryz Go Go.RowKit ib
theorem qxi{w wr:World}(h:Below w.heap.size w wr)(n:Nat):Below w.heap.size w (wr.drewN n):=⟨h.os,h.tape,h.output,h.size,h.block⟩
end Go.Proofs.YtdagdllomphidaaGreatDoor.im
namespace Go.Proofs.YtdagdllomphidaaGreatDoor.mt
open _root_.Go.Proofs.Tryz Go Go.RowKit ib wi im
theorem qa8{m:Mt}{b n:Int}(h1:zD m.live b n=0)(h2:20<m.qa.length):xj m b n=3:=by
 unfold xj;rw[if_neg (show ¬ zD m.live b n≠0 by rw[h1];simp),if_pos h2]
theorem qg5{m:Mt}{b n:Int}(h1:zD m.live b n=0)(h2:¬ 20<m.qa.length):xj m b n=if (xK b n (0,0) m.qa).1≠0 then(xK b n (0,0) m.qa).1 else kG b n (xK b n (0,0) m.qa).2 m.tok:=by
 unfold xj;rw[if_neg (show ¬ zD m.live b n≠0 by rw[h1];simp),if_neg h2]
theorem qg6{b n:Int}{last:Gd}{x:Sp}{r:List Sp}(h:above x.g last=false):xK b n last (x::r)=(2,last):=by
 conv=>lhs;unfold xK
 rw[h];rfl
theorem qg7{b n:Int}{last:Gd}{x:Sp}{r:List Sp}(h:above x.g last=true)(h0:zD x.qj b n≠0):xK b n last (x::r)=(zD x.qj b n,x.g):=by
 conv=>lhs;unfold xK
 rw[if_pos h,if_neg h0]
theorem qcZ{b n:Int}{last:Gd}{x:Sp}{r:List Sp}(h:above x.g last=true)(h0:zD x.qj b n=0):xK b n last (x::r)=xK b n x.g r:=by
 conv=>lhs;unfold xK
 rw[if_pos h,if_pos h0]
end Go.Proofs.YtdagdllomphidaaGreatDoor.mt
namespace Go.Proofs.YtdagdllomphidaaGreatDoor.mt.pg
open _root_.Go.Proofs.Tryz Go Go.RowKit ib wi im mt
def q2J (gl:Nat)(b n:Int)(xs:List Sp)(w:World)(i:Value)(wr:World):Prop :=
 ∃(k:Nat) (last:Gd),k≤xs.length∧i=.int .i64 (k:Int)∧qg wr gl 55 #[.int .u64 (last.1:Int),.int .u64 (last.2:Int)]∧xK b n (0,0) xs=xK b n last (xs.drop k)∧qB (fun j=>j=gl) w wr
theorem py (v:Value)(m:Mt)(b n:Int)(w:World)(h:rL w v m)(hs:mtS m)(hbB:qD b)(hnB:qD n):Calls prog 44 #[v,.int .i64 b,.int .i64 n] w (qga (xj m b n) w):=by
 obtain⟨A0,A1,A2,c0',c1',c2',rfl,hm⟩:=h;have HM:=QH hm;have eM:=QH hs;have HNB:=QH (And.intro hbB hnB);clear hm hs hbB hnB;have hb0:=(Below.refl w.heap.size w).alloc (Nat.le_refl _) (.cells (zi A0 A1 A2 c0' c1' c2' m) 93);have uj:=QH hb0;have HM0:=QH (HM.out.below hb0);have oP:=QH (qg.new w 93 (zi A0 A1 A2 c0' c1' c2' m));obtain⟨w0,hw0⟩:=QE (w.alloc (.cells (zi A0 A1 A2 c0' c1' c2' m) 93));rw[hw0]at uj HM0 oP;clear hb0;have c0:=oP.out.cell 0;unfold zi at c0 hw0 ⊢;simp only[QA,QB,QC]at c0;have hlt:=oP.out.lt;obtain⟨res,hres⟩:=QE (xj m b n);rw[hres];have xB:=QH hres;clear hres;go_enter func44,ntmps44;go_wp2_with fail;try rw[hw0]
 clear hw0 c0 hlt;refine(aA A0 c0' m.live b n w0 HM0.out.live eM.out.live HNB.out.1 HNB.out.2).mono ?_;rintro e W1 ⟨rfl,hb1⟩;have zk:=QH (q9 uj.out hb1);have HM1:=QH (HM0.out.below hb1);have fS:=QH (oP.out.below hb1);clear hb1 oP HM0 uj;obtain⟨er,her⟩:=QE (zD m.live b n);rw[her];have HER:=QH her;clear her;by_cases he:er=0
 case' neg =>
  have hne:(er != 0)=true:=by simpa using he
  have hr:res=er:=by rw[← xB.out];unfold xj;rw[HER.out,if_pos he]
  have HR:=QH hr;clear hr he;go_wp2_with fail;go_ret;exact⟨by rw[HR.out];rfl,zk.out⟩
 case' pos =>
  subst he
 have c1:=fS.out.cell 1;simp only[zi,QA,QB,QC]at c1;have hlt:=fS.out.lt;by_cases hl:20<m.qa.length
 case' pos =>
  have hli:(20:Int)<(m.qa.length:Int):=by omega
  have hr:res=3:=by rw[← xB.out];exact qa8 HER.out hl
  have HR:=QH hr;clear hr hl;go_wp2_with fail;go_ret;exact⟨by rw[HR.out];rfl,zk.out⟩
 have hli:¬ (20:Int)<(m.qa.length:Int):=by omega
 have hres:(if (xK b n (0,0) m.qa).1≠0 then(xK b n (0,0) m.qa).1 else kG b n (xK b n (0,0) m.qa).2 m.tok)=res:=by
  rw[← xB.out];exact(qg5 HER.out hl).symm
 have oY:=QH hres;have q2K:Hid (m.qa.length≤20):=by unfold Hid;omega
 clear hres hl xB HER;have hb2:=(Below.refl _ W1).alloc (Nat.le_refl _) (.cells #[.int .u64 0,.int .u64 0] 55);have qG:=QH (q9 zk.out hb2);have rT:=QH (HM1.out.below hb2);have dC:=QH (fS.out.below hb2);have rU:=QH (qg.new W1 55 #[.int .u64 0,.int .u64 0]);have HGL:Hid (w.heap.size<W1.heap.size):=fS.out.lt;clear hb2;obtain⟨gl,wD⟩:=QE W1.heap.size;obtain⟨W2,hW2⟩:=QE (W1.alloc (.cells #[.int .u64 0,.int .u64 0] 55));rw[hW2]at qG rT dC rU;have d1:=dC.out.cell 1;simp only[zi,QA,QB,QC]at d1;have hlt2:=dC.out.lt;go_upto_region 7 with fail;try rw[hW2]
 clear hW2 c1 hlt;go_wp2_with fail;rw[wD]at HGL rU;try rw[wD]
 clear d1 hlt2 fS HM1 zk;clear wD;obtain⟨len,hlen⟩:=QE m.qa.length;have HLEN:=QH hlen;rw[hlen]at q2K ⊢;clear hlen;go_loopw [10,11,27] (fun _ _ i wr=>q2J gl b n m.qa W2 i wr) (fun _ _ i _=>m.qa.length-(intOf i).toNat);case atStart=>exact⟨0,(0,0),Nat.zero_le _,rfl,rU.out,rfl,qB.refl _ _⟩
 case round =>
  obtain⟨k,last,hk,rfl,hbl,hsn,hbw⟩:=hrel;have HLA:=QH hbl;have wM:=QH hsn;have HBT:=QH hbw;have jZ:Hid (Below w.heap.size w wr):=qG.out.trans (hbw.below (fun j hj=>by rw[hj];exact Nat.le_of_lt HGL.out) qG.out.size);have HMW:=QH (HM.out.below jZ.out);have HAW:=QH (dC.out.of_block (hbw.block _ dC.out.lt (fun e=>by have:=HGL.out;omega)));rw[HLEN.out]at hk;clear hbl hsn hbw;by_cases hlt:k<len
  ·have jY:(k:Int)<(len:Int):=by omega
   have hkm:k<m.qa.length:=by rw[HLEN.out];exact hlt
   obtain⟨bb,bo,B,cb,hA1,hlb,e0,e1,e2,e3,uJ,hgd⟩:=HMW.out.qa k hkm;obtain⟨x,hx⟩:=QE (m.qa[k]);rw[hx]at e0 e1 e2 e3 uJ hgd;have HDR:Hid (m.qa.drop k=x::m.qa.drop (k+1)):=by rw[← hx];exact List.drop_eq_getElem_cons hkm
   have HXS:Hid (x.qj.length≤1000):=by rw[← hx];exact eM.out.uf _ (List.getElem_mem hkm)
   subst hA1;have HSL:=QH uJ;clear uJ hgd hx HMW;obtain⟨W3,hW3⟩:=QE (wr.alloc (.cells (snC x B cb) 145));have hb3:Below wr.heap.size wr W3:=by rw[← hW3];exact(Below.refl _ wr).alloc (Nat.le_refl _) _
   have hS:qg W3 wr.heap.size 145 (snC x B cb):=by rw[← hW3];exact qg.new _ _ _
   have zf:=QH hb3;have rR:=QH hS;have HL3:=QH (HLA.out.below hb3);have x0:=hS.cell 0;have x1:=hS.cell 1;have hlx:=hS.lt;have l0:=HL3.out.cell 0;have l1:=HL3.out.cell 1;have rV:=HL3.out.lt;simp only[snC,QA,QB,QC]at x0 x1 l0 l1;unfold snC at hW3;clear hS hb3;have HAB:=QH (oV x.g last W3);unfold gv at HAB;go_upto_region 10 with fail;try rw[hW3]
   clear hW3 e0 e1 e2 e3;obtain⟨gs,hgs⟩:=QE wr.heap.size;have HGS:=QH hgs;rw[hgs]at x0 x1 hlx rR;try rw[hgs]
   clear hgs;go_wp2_with fail;refine HAB.out.mono ?_;rintro e W4 ⟨rfl,hb4⟩;have zU:=QH (q9 zf.out hb4);have pj:=QH (rR.out.below hb4);have HL4:=QH (HL3.out.below hb4);have hS:=pj.out;have x1':=hS.cell 2;have hlx:=hS.lt;simp only[snC,QA,QB,QC]at x1';clear hb4 x0 x1 l0 l1 rV hS rR HL3;obtain⟨q,hq⟩:=QE (above x.g last);rw[hq];cases q with
   | false =>
    have HR:Hid (res=2):=by
     unfold Hid;rw[← oY.out,wM.out,HDR.out,qg6 hq];rfl
    clear hq;go_wp2_with fail;go_ret;exact⟨by rw[HR.out];rfl,q9 jZ.out zU.out⟩
   | true =>
    have HQ:=QH hq;clear hq;go_wp2_with fail;refine(aA B cb x.qj b n W4 (HSL.out.below zU.out) HXS.out HNB.out.1 HNB.out.2).mono ?_;rintro e W5 ⟨rfl,hb5⟩;have jt:=QH (q9 zU.out hb5);have rW:=QH (pj.out.below hb5);have HL5:=QH (HL4.out.below hb5);clear hb5 x1' hlx pj HL4;obtain⟨ei,hei⟩:=QE (zD x.qj b n);rw[hei];by_cases he:ei=0
    ·subst he;have HN:Hid (xK b n (0,0) m.qa=xK b n x.g (m.qa.drop (k+1))):=by
      unfold Hid;rw[wM.out,HDR.out,qcZ HQ.out hei]
     have x0:=rW.out.cell 0;have x1:=rW.out.cell 1;have hlx:=rW.out.lt;have rV:=HL5.out.lt;have l0:=HL5.out.cell 0;have l1:=HL5.out.cell 1;have f0:=HL5.out.frozen 0;have f1:=HL5.out.frozen 1;simp only[snC,QA,QB,QC]at x0 x1 l0 l1;clear hei;go_wp2_with fail;have HL6:=QH ((HL5.out.qo 0 (.int .u64 (x.g.1:Int))).qo 1 (.int .u64 (x.g.2:Int)));go_roundw;case rel =>
      refine⟨k+1,x.g,by rw[HLEN.out];omega,by go_num,HL6.out,HN.out,?_⟩;have hbt:qB (fun j=>j=gl) W2 W5:=HBT.out.trans (qB.of_below jt.out) (fun i hi=>.inl hi);exact(hbt.setCell _ _ (.inl rfl)).setCell _ _ (.inl rfl)
     case measure=>simp[intOf];have:=HLEN.out;omega
    ·have hne:(ei != 0)=true:=by simpa using he
     have HR:Hid (res=ei):=by
      unfold Hid;rw[← oY.out,wM.out,HDR.out,qg7 HQ.out (by rw[hei];exact he),hei];simp[he]
     clear hei he;go_wp2_with fail;go_ret;exact⟨by rw[HR.out];rfl,q9 jZ.out jt.out⟩
  ·have jY:¬ (k:Int)<(len:Int):=by omega
   have hsn:xK b n (0,0) m.qa=(0,last):=by
    rw[wM.out,List.drop_eq_nil_of_le (by have:=HLEN.out;omega)];rfl
   have HR:Hid (kG b n last m.tok=res):=by
    unfold Hid;rw[← oY.out,hsn];simp
   have HT:=QH (lF m.tok A2 c2' last b n wr (HM.out.qj.below jZ.out) eM.out.qj HNB.out.1 HNB.out.2);rw[HR.out]at HT;unfold gv wG at HT;have c2:=HAW.out.cell 2;have c3:=HAW.out.cell 3;have c4:=HAW.out.cell 4;have c5:=HAW.out.cell 5;have c6:=HAW.out.cell 6;have c7:=HAW.out.cell 7;have c8:=HAW.out.cell 8;have l0:=HLA.out.cell 0;have l1:=HLA.out.cell 1;have ep:=HAW.out.lt;have rV:=HLA.out.lt;simp only[zi,QA,QB,QC]at c2 c3 c4 c5 c6 c7 c8 l0 l1;clear hsn wM;go_wp2_with fail;refine HT.out.mono ?_;rintro e W4 ⟨rfl,hb4⟩;have zU:=QH (q9 jZ.out hb4);clear hb4 c2 c3 c4 c5 c6 c7 c8 l0 l1;go_wp2_with fail;go_ret;exact⟨rfl,zU.out⟩
theorem qjL(L:List UInt8)(z:Int)(W:World)(h0:0≤z)(h1:z≤9223372036854775807)(hs:L.length≤100000) :
    Calls prog 181 #[.string (str L),.slice (some ⟨W.heap.size,0,none⟩) 1 1] (W.alloc (.cells #[.int .i64 z] 3)) (fun e w'=>e=.returned (.string (str (L++xU z)))∧Below W.heap.size W w'):=by
 have h:=kr L (some ⟨W.heap.size,0,none⟩) 1 [z] (W.alloc (.cells #[.int .i64 z] 3)) (wT W [z] (by intro x hx;simp only[List.mem_cons,List.not_mem_nil,or_false]at hx;subst hx;unfold qD;omega)) (by intro x hx;simp only[List.mem_cons,List.not_mem_nil,or_false]at hx;subst hx;exact h0) hs (by simp);refine h.mono ?_;rintro e w' ⟨rfl,hb⟩;exact⟨by simp[zg],q9 ((Below.refl _ W).alloc (Nat.le_refl _) _) hb⟩
theorem q2M(L:List UInt8)(z y:Int)(W:World)(h0:0≤z)(h1:z≤9223372036854775807)(h2:0≤y)(h3:y≤9223372036854775807)(hs:L.length≤100000) :
    Calls prog 181 #[.string (str L),.slice (some ⟨W.heap.size,0,none⟩) 2 2] (W.alloc (.cells #[.int .i64 z,.int .i64 y] 3)) (fun e w'=>e=.returned (.string (str (L++(xU z++xU y))))∧Below W.heap.size W w'):=by
 have h:=kr L (some ⟨W.heap.size,0,none⟩) 2 [z,y] (W.alloc (.cells #[.int .i64 z,.int .i64 y] 3)) (wT W [z,y] (by intro x hx;simp only[List.mem_cons,List.not_mem_nil,or_false]at hx;unfold qD;rcases hx with rfl|rfl <;> omega)) (by intro x hx;simp only[List.mem_cons,List.not_mem_nil,or_false]at hx;rcases hx with rfl|rfl <;> assumption) hs (by simp);refine h.mono ?_;rintro e w' ⟨rfl,hb⟩;exact⟨by simp[zg],q9 ((Below.refl _ W).alloc (Nat.le_refl _) _) hb⟩
theorem qaB(W:World)(l:List Nat)(h:∀z∈l,z<18446744073709551616)(t:TypeId):qjK (W.alloc (.cells (l.map fun(n:Nat)=>Value.int .u64 (n:Int)).toArray t)) (some ⟨W.heap.size,0,none⟩) l:=fun i hi =>
 ⟨W.heap.size,0,rfl,by simp,by rw[Nat.zero_add,(qg.new W t _).cell i];simp[hi],h _ (List.getElem_mem hi)⟩
theorem q2N(L:List UInt8)(g:Gd)(W:World)(hg:xn g)(hs:L.length≤100000) :
    Calls prog 182 #[.string (str L),.slice (some ⟨W.heap.size,0,none⟩) 2 2] (W.alloc (.cells #[.int .u64 (g.1:Int),.int .u64 (g.2:Int)] 35)) (fun e w'=>e=.returned (.string (str (L++jG g)))∧Below W.heap.size W w'):=by
 have h:=qa7 L (some ⟨W.heap.size,0,none⟩) 2 [g.1,g.2] (W.alloc (.cells #[.int .u64 (g.1:Int),.int .u64 (g.2:Int)] 35)) (qaB W [g.1,g.2] (by intro x hx;simp only[List.mem_cons,List.not_mem_nil,or_false]at hx;rcases hx with rfl|rfl;exact hg.1;exact hg.2) _) hs (by simp);refine h.mono ?_;rintro e w' ⟨rfl,hb⟩;exact⟨by simp[uS,jG],q9 ((Below.refl _ W).alloc (Nat.le_refl _) _) hb⟩
theorem qxk(L:List UInt8)(g y:Gd)(W:World)(hg:xn g)(hy:xn y)(hs:L.length≤100000) :
    Calls prog 182 #[.string (str L),.slice (some ⟨W.heap.size,0,none⟩) 4 4] (W.alloc (.cells #[.int .u64 (g.1:Int),.int .u64 (g.2:Int),.int .u64 (y.1:Int),.int .u64 (y.2:Int)] 35)) (fun e w'=>e=.returned (.string (str (L++(jG g++jG y))))∧Below W.heap.size W w'):=by
 have h:=qa7 L (some ⟨W.heap.size,0,none⟩) 4 [g.1,g.2,y.1,y.2] (W.alloc (.cells #[.int .u64 (g.1:Int),.int .u64 (g.2:Int),.int .u64 (y.1:Int),.int .u64 (y.2:Int)] 35)) (qaB W [g.1,g.2,y.1,y.2] (by intro x hx;simp only[List.mem_cons,List.not_mem_nil,or_false]at hx;rcases hx with rfl|rfl|rfl|rfl;exact hg.1;exact hg.2;exact hy.1;exact hy.2) _) hs (by simp);refine h.mono ?_;rintro e w' ⟨rfl,hb⟩;exact⟨by simp[uS,jG],q9 ((Below.refl _ W).alloc (Nat.le_refl _) _) hb⟩
def tkP (t:Tk):List UInt8:=if t=zL then zn 0 else zn 1++(jG t.base++(jG t.target++(xU t.next++(xU t.all++zg t.qj))))
structure TkF(t:Tk):Prop where
 base:xn t.base
 target:xn t.target
 next:0≤t.next∧t.next≤9223372036854775807
 all:0≤t.all∧t.all≤9223372036854775807
 qj:∀z∈t.qj,0≤z
 few:t.qj.length≤100
theorem rX (L:List UInt8)(t:Tk)(A:Option Addr)(c:Nat)(w:World)(h:yx w A t.qj c)(ht:TkF t)(hs:L.length≤50000):Calls prog 184 #[.string (str L),.agg (wG t A c)] w (qn3 (L++tkP t) w):=by
 have HT:=QH ht;have HS:=QH hs;have hb:=(Below.refl w.heap.size w).alloc (Nat.le_refl _) (.cells (wG t A c) 59);have ha:=qg.new w 59 (wG t A c);obtain⟨W,hW⟩:=QE (w.alloc (.cells (wG t A c) 59));rw[hW]at hb ha;have HI:=QH (h.below hb);have HN:=QH (lD t A c W HI.out (by have:=ht.few;omega));have HB:=QH hb;have HA:=QH ha;have a0:=ha.cell 0;have a1:=ha.cell 1;have a2:=ha.cell 2;have a3:=ha.cell 3;have a4:=ha.cell 4;have a5:=ha.cell 5;have a6:=ha.cell 6;have ep:=ha.lt;simp only[wG,QA,QB,QC]at a0 a1 a2 a3 a4 a5 a6;clear hb ha h hs ht;unfold wG at hW HN ⊢;go_enter func184,ntmps184;go_upto_region 1 with fail;try rw[hW]
 clear hW;go_wp2_with fail;refine HN.out.mono ?_;rintro e W1 ⟨rfl,hb1⟩;have zk:=QH (q9 HB.out hb1);have fS:=QH (HA.out.below hb1);have HI1:=QH (HI.out.below hb1);clear hb1 a0 a1 a2 a3 a4 a5 a6 ep HN HA HI HB;by_cases h0:t=zL
 ·have HR:Hid (tkP t=xU 0):=by unfold Hid tkP;rw[if_pos h0];rfl
  rw[decide_eq_true h0];clear h0;go_wp2_with fail;refine(lC false W1).mono ?_;rintro e _ ⟨rfl,rfl⟩;dsimp only;go_wp2_with fail;refine(qjL L 0 _ (by omega) (by omega) (by have:=HS.out;omega)).mono ?_;rintro e W2 ⟨rfl,hb2⟩;have qG:=QH (q9 zk.out hb2);rw[← HR.out];clear hb2;go_wp2_with fail;go_ret;exact⟨rfl,qG.out⟩
 ·have HR:Hid (tkP t=xU 1++(jG t.base++(jG t.target++(xU t.next++(xU t.all++zg t.qj))))):=by unfold Hid tkP;rw[if_neg h0];rfl
  rw[decide_eq_false h0];clear h0;go_wp2_with fail;refine(lC true W1).mono ?_;rintro e _ ⟨rfl,rfl⟩;dsimp only;go_wp2_with fail;refine(qjL L 1 _ (by omega) (by omega) (by have:=HS.out;omega)).mono ?_;rintro e W2 ⟨rfl,hb2⟩;have qG:=QH (q9 zk.out hb2);have ha:=fS.out.below hb2;have dC:=QH ha;have HI2:=QH (HI1.out.below hb2);obtain⟨L1,hL1⟩:=QE (L++xU 1);have HL1:=QH hL1;have eJ:Hid (L1.length≤50009):=by
   unfold Hid;rw[← hL1,List.length_append];have:=HS.out;have:=qz (1:Int).toNat;unfold xU;omega
  rw[hL1];have a0:=ha.cell 0;have a1:=ha.cell 1;have a2:=ha.cell 2;have a3:=ha.cell 3;have ep:=ha.lt;simp only[wG,QA,QB,QC]at a0 a1 a2 a3;clear hb2 ha hL1;go_wp2_with fail;refine(qxk L1 t.base t.target _ HT.out.base HT.out.target (by have:=eJ.out;omega)).mono ?_;rintro e W3 ⟨rfl,hb3⟩;have zf:=QH (q9 qG.out hb3);have ha:=dC.out.below hb3;have fT:=QH ha;have HI3:=QH (HI2.out.below hb3);obtain⟨L2,hL2⟩:=QE (L1++(jG t.base++jG t.target));have rU:=QH hL2;have uk:Hid (L2.length≤50100):=by
   unfold Hid;rw[← hL2];have:=eJ.out;have:=qz t.base.1;have:=qz t.base.2;have:=qz t.target.1;have:=qz t.target.2;unfold jG;simp only[List.length_append];omega
  rw[hL2];have a4:=ha.cell 4;have a5:=ha.cell 5;have ep:=ha.lt;simp only[wG,QA,QB,QC]at a4 a5;clear hb3 ha hL2 a0 a1 a2 a3;go_wp2_with fail;refine(q2M L2 t.next t.all _ HT.out.next.1 HT.out.next.2 HT.out.all.1 HT.out.all.2 (by have:=uk.out;omega)).mono ?_;rintro e W4 ⟨rfl,hb4⟩;have zU:=QH (q9 zf.out hb4);have ha:=fT.out.below hb4;have HI4:=QH (HI3.out.below hb4);obtain⟨L3,hL3⟩:=QE (L2++(xU t.next++xU t.all));have HL3:=QH hL3;have rR:Hid (L3.length≤50200):=by
   unfold Hid;rw[← hL3];have:=uk.out;have:=qz t.next.toNat;have:=qz t.all.toNat;unfold xU;simp only[List.length_append];omega
  rw[hL3];have a6:=ha.cell 6;have ep:=ha.lt;simp only[wG,QA,QB,QC]at a6;clear hb4 ha hL3 a4 a5;go_wp2_with fail;refine(kr L3 A c t.qj W4 HI4.out.ints HT.out.qj (by have:=rR.out;omega) (by have:=HT.out.few;omega)).mono ?_;rintro e W5 ⟨rfl,hb5⟩;have jt:=QH (q9 zU.out hb5);have HE:Hid (L3++zg t.qj=L++tkP t):=by
   unfold Hid;rw[HR.out,← HL3.out,← rU.out,← HL1.out];simp only[List.append_assoc]
  rw[HE.out];clear hb5 a6 ep;go_wp2_with fail;go_ret;exact⟨rfl,jt.out⟩
end Go.Proofs.YtdagdllomphidaaGreatDoor.mt.pg
namespace Go.Proofs.YtdagdllomphidaaGreatDoor.wi
open _root_.Go.Proofs.Tryz Go.RowKit
end Go.Proofs.YtdagdllomphidaaGreatDoor.wi
namespace Go.Proofs.YtdagdllomphidaaGreatDoor.mt
open _root_.Go.Proofs.Tryz Go Go.RowKit ib wi
theorem qjM(z:Int):(xU z).length≤9:=by
 unfold xU zn;have:=jh z.toNat;simp only[List.length_cons];omega
theorem ja:∀l:List Int,(zg l).length≤9*l.length
 | []=>by simp[zg]
 | z::l=>by
  have h1:=qjM z;have h2:=ja l;simp only[zg,List.flatMap_cons,List.length_append,List.length_cons]at h2 ⊢;omega
end Go.Proofs.YtdagdllomphidaaGreatDoor.mt
namespace Go.Proofs.YtdagdllomphidaaGreatDoor.mt
open _root_.Go.Proofs.Tryz Go Go.RowKit ib wi im
theorem qz (n:Nat):(zn n).length≤9:=by
 unfold zn;have:=jh n;simp only[List.length_cons];omega
theorem qjN(g:Gd):(jG g).length≤18:=by
 unfold jG;have:=qz g.1;have:=qz g.2;rw[List.length_append];omega
end Go.Proofs.YtdagdllomphidaaGreatDoor.mt
namespace Go.Proofs.YtdagdllomphidaaGreatDoor.mt
open _root_.Go.Proofs.Tryz Go Go.RowKit ib wi
end Go.Proofs.YtdagdllomphidaaGreatDoor.mt
namespace Go.Proofs.YtdagdllomphidaaGreatDoor
open _root_.Go.Proofs.Tryz Go Go.RowKit
section
variable {P:Program} {ops:Array Oper} {Q:Exit→Act→World→Prop} {a0:Act} {m:Nat} {ds:List Tmp} {I:(Nat→Bool)→(Nat→Value)→World→Prop}
end
end Go.Proofs.YtdagdllomphidaaGreatDoor
namespace Go.Proofs.YtdagdllomphidaaGreatDoor.mt
open _root_.Go.Proofs.Tryz Go Go.RowKit ib wi im
theorem qn6(x:Sp)(h:x.qj.length≤8):(spB x).length≤99:=by
 unfold spB;have h1:=qjN x.g;have h2:=qz (if x.hid then 1 else 0);have h3:=ja x.qj;simp only[List.length_append];omega
theorem bH:∀(l:List Sp),(∀x∈l,x.qj.length≤8)→(yK l).length≤99*l.length
 | [],_=>by simp[yK]
 | x::l,h=>by
  have h1:=qn6 x (h x (by simp));have h2:=bH l (fun y hy=>h y (by simp[hy]));simp only[yK,List.flatMap_cons,List.length_append,List.length_cons]at h2 ⊢;omega
theorem qgA(l:List Sp)(k:Nat)(h:k<l.length):yK (l.take (k+1))=yK (l.take k)++spB l[k]:=by
 unfold yK;rw[List.take_succ_eq_append_getElem h,List.flatMap_append];simp
theorem qn7(b:Bool):zn (if b then 1 else 0)=xU (if b then 1 else 0):=by cases b <;> rfl
end Go.Proofs.YtdagdllomphidaaGreatDoor.mt
namespace Go.Proofs.YtdagdllomphidaaGreatDoor.mt.pg
open _root_.Go.Proofs.Tryz Go Go.RowKit ib wi im mt
structure qtA(m:Mt):Prop where
 live:∀z∈m.live,0≤z
 few:m.live.length≤8
 qa:∀s∈m.qa,xn s.g∧s.qj.length≤8∧∀z∈s.qj,0≤z
 qxl:m.qa.length≤20
 tok:TkF m.tok
theorem qn8{m:Mt}(hB:mB m)(h:xj m m.live.length 1024=0):qtA m∧tkP m.tok=tkB m.tok:=by
 obtain⟨h1,h2,h3,h4⟩:=lf hB h;have ht:=h1.tok;unfold bp at ht;refine⟨⟨fun z hz=>(h1.live z hz).1,h3,fun s hs=>⟨(h1.qa s hs).1,by rw[(h1.qa s hs).2.1];exact h3,fun z hz=>((h1.qa s hs).2.2 z hz).1⟩,h4,?_⟩,?_⟩
 ·by_cases h0:m.tok.target=(0,0)
  ·rw[if_pos h0]at ht;rw[ht];exact⟨lg,lg,by unfold zL;simp,by unfold zL;simp,fun z hz=>absurd hz (by simp[zL]),by simp[zL]⟩
  ·rw[if_neg h0]at ht;obtain⟨a1,a2,a3,a4,a5,a6⟩:=ht;exact⟨a1,a2,by omega,by omega,fun z hz=>(a6 z hz).1,by omega⟩
 ·unfold tkP tkB;by_cases h0:m.tok.target=(0,0)
  ·rw[if_pos h0]at ht;rw[if_pos h0,if_pos ht]
  ·rw[if_neg h0,if_neg];intro e;exact h0 (by rw[e];rfl)
def qxm (L:List UInt8)(xs:List Sp)(w:World)(v x i:Value)(wr:World):Prop :=
 ∃k:Nat,k≤xs.length∧i=.int .i64 (k:Int)∧v=.string (str (L++yK (xs.take k)))∧Below w.heap.size w wr
theorem km (A0 A1 A2:Option Addr)(d0 d1 d2:Nat)(m:Mt)(w:World)(hm:MtL w A0 A1 A2 d0 d1 d2 m)(hf:qtA m):Calls prog 147 #[.agg (zi A0 A1 A2 d0 d1 d2 m)] w (qn3 (zn m.live.length++(zg m.live++(zn m.qa.length++(yK m.qa++tkP m.tok)))) w):=by
 have HF:=QH hf;have hb:=(Below.refl w.heap.size w).alloc (Nat.le_refl _) (.cells (zi A0 A1 A2 d0 d1 d2 m) 93);have ha:=qg.new w 93 (zi A0 A1 A2 d0 d1 d2 m);obtain⟨W,hW⟩:=QE (w.alloc (.cells (zi A0 A1 A2 d0 d1 d2 m) 93));rw[hW]at hb ha;have HM:=QH (hm.below hb);have HB:=QH hb;have HA:=QH ha;have a0:=ha.cell 0;have ep:=ha.lt;simp only[zi,QA,QB,QC]at a0;clear hb ha hm hf;have HNL:Hid (m.live.length≤8):=HF.out.few;have HNS:Hid (m.qa.length≤20):=HF.out.qxl;unfold zi at hW ⊢;go_enter func147,ntmps147;go_upto_region 1 with fail;try rw[hW]
 clear hW;go_wp2_with fail;have l0:=qjL [] (m.live.length:Int) W (by omega) (by have:=HNL.out;omega) (by simp);refine l0.mono ?_;clear l0;rintro e W1 ⟨rfl,hb1⟩;have zk:=QH (q9 HB.out hb1);have ha:=HA.out.below hb1;have fS:=QH ha;have HM1:=QH (HM.out.below hb1);obtain⟨L1,hL1⟩:=QE ([]++xU (m.live.length:Int));have HL1:Hid (L1=zn m.live.length):=by unfold Hid;rw[← hL1];simp[xU]
 rw[hL1];have a0:=ha.cell 0;have ep:=ha.lt;simp only[zi,QA,QB,QC]at a0;clear hb1 ha hL1 HM HA HB;go_wp2_with fail;refine(kr L1 A0 d0 m.live W1 HM1.out.live.ints HF.out.live (by rw[HL1.out];have:=qz m.live.length;omega) (by have:=HNL.out;omega)).mono ?_;rintro e W2 ⟨rfl,hb2⟩;have qG:=QH (q9 zk.out hb2);have ha:=fS.out.below hb2;have dC:=QH ha;have rT:=QH (HM1.out.below hb2);obtain⟨L2,hL2⟩:=QE (L1++zg m.live);have rU:Hid (L2=zn m.live.length++zg m.live):=by unfold Hid;rw[← hL2,HL1.out]
 have uk:Hid (L2.length≤81):=by
  unfold Hid;rw[rU.out,List.length_append];have:=qz m.live.length;have:=ja m.live;have:=HNL.out;omega
 rw[hL2];have a1:=ha.cell 1;have ep:=ha.lt;simp only[zi,QA,QB,QC]at a1;clear hb2 ha hL2 HM1 fS zk a0;go_wp2_with fail;refine(qjL L2 (m.qa.length:Int) W2 (by omega) (by have:=HNS.out;omega) (by have:=uk.out;omega)).mono ?_;rintro e W3 ⟨rfl,hb3⟩;have zf:=QH (q9 qG.out hb3);have ha:=dC.out.below hb3;have fT:=QH ha;have HM3:=QH (rT.out.below hb3);obtain⟨L3,hL3⟩:=QE (L2++xU (m.qa.length:Int));have HL3:Hid (L3=zn m.live.length++(zg m.live++zn m.qa.length)):=by unfold Hid;rw[← hL3,rU.out];simp[xU]
 have rR:Hid (L3.length≤90):=by
  unfold Hid;rw[← hL3,List.length_append];have:=qz (m.qa.length:Int).toNat;have:=uk.out;unfold xU;omega
 rw[hL3];have a1:=ha.cell 1;have ep:=ha.lt;simp only[zi,QA,QB,QC]at a1;clear hb3 ha hL3 rT dC qG;have HSL:Hid ((yK m.qa).length≤1980):=by
  unfold Hid;have:=bH m.qa (fun x hx=>(HF.out.qa x hx).2.1);have:=HNS.out;omega
 have HSK:Hid (∀k,k≤m.qa.length→(yK (m.qa.take k)).length≤1980):=fun k hk=>by
  have:=bH (m.qa.take k) (fun x hx=>(HF.out.qa x (List.mem_of_mem_take hx)).2.1);have:=HNS.out;have h3:(m.qa.take k).length≤20:=by simp only[List.length_take];omega
  omega
 obtain⟨len,hlen⟩:=QE m.qa.length;have HLEN:=QH hlen;rw[hlen]at a1 HNS HSK;clear hlen;go_wp2_with fail;clear a1;go_loopw [3,5,24] (fun v x i wr=>qxm L3 m.qa W3 v x i wr) (fun _ _ i _=>len-(intOf i).toNat);case atStart=>exact⟨0,Nat.zero_le _,rfl,by simp[yK],Below.refl _ _⟩
 case round =>
  obtain⟨k,hk,rfl,rfl,hbw⟩:=hrel;have jZ:=QH hbw;have HAW:=QH (fT.out.below hbw);have HMW:=QH (HM3.out.below hbw);rw[HLEN.out]at hk;clear hbw;obtain⟨P,hP⟩:=QE (L3++yK (m.qa.take k));have HP:=QH hP;have nQ:Hid (P.length≤2100):=by
   unfold Hid;rw[← hP,List.length_append];have:=rR.out;have:=HSK.out k hk;omega
  rw[hP];clear hP;by_cases hlt:k<len
  ·have jY:(k:Int)<(len:Int):=by omega
   have q8E:k≤20:=by have:=HNS.out;omega
   have hkm:k<m.qa.length:=by rw[HLEN.out];exact hlt
   obtain⟨bb,bo,B,cb,hA1,hlb,e0,e1,e2,e3,uJ,hgd⟩:=HMW.out.qa k hkm;have hsf:=HF.out.qa _ (List.getElem_mem hkm);have wM:=QH (qgA m.qa k hkm);obtain⟨x,hx⟩:=QE (m.qa[k]);rw[hx]at e0 e1 e2 e3 uJ hgd hsf wM;have HSF:=QH hsf;subst hA1;have HSI:=QH uJ;clear uJ hgd hx hsf;obtain⟨W4,tZ⟩:=QE (wr.alloc (.cells (snC x B cb) 145));have hb4:Below wr.heap.size wr W4:=by rw[← tZ];exact(Below.refl _ wr).alloc (Nat.le_refl _) _
   have hS:qg W4 wr.heap.size 145 (snC x B cb):=by rw[← tZ];exact qg.new _ _ _
   have zU:=QH (q9 jZ.out hb4);have HI4:=QH (HSI.out.below hb4);have pj:=QH hS;have x0:=hS.cell 0;have x1:=hS.cell 1;have hlx:=hS.lt;simp only[snC,QA,QB,QC]at x0 x1;unfold snC at tZ;clear hS hb4 HSI;go_upto_region 7 with fail;try rw[tZ]
   clear tZ e0 e1 e2 e3;obtain⟨gs,hgs⟩:=QE wr.heap.size;rw[hgs]at x0 x1 hlx pj;try rw[hgs]
   clear hgs;go_wp2_with fail;refine(q2N P x.g W4 HSF.out.1 (by have:=nQ.out;omega)).mono ?_;rintro e W5 ⟨rfl,hb5⟩;have jt:=QH (q9 zU.out hb5);have HI5:=QH (HI4.out.below hb5);have hS:=pj.out.below hb5;have rW:=QH hS;obtain⟨P1,hP1⟩:=QE (P++jG x.g);have HP1:=QH hP1;have qxo:Hid (P1.length≤2200):=by
    unfold Hid;rw[← hP1,List.length_append];have:=nQ.out;have:=qz x.g.1;have:=qz x.g.2;unfold jG;simp only[List.length_append];omega
   rw[hP1];have x3:=hS.cell 3;have hlx:=hS.lt;simp only[snC,QA,QB,QC]at x3;clear hb5 hS hP1 x0 x1 pj HI4;go_wp2_with fail;refine(lC x.hid W5).mono ?_;rintro e _ ⟨rfl,rfl⟩;obtain⟨fl,wC⟩:=QE ((if x.hid=true then 1 else 0):Int);rw[wC];have HFL:=QH wC;have hfb:0≤fl∧fl≤1:=by rw[← wC];split <;> omega
   have HFB:=QH hfb;clear wC hfb;go_wp2_with fail;refine(qjL P1 fl _ HFB.out.1 (by have:=HFB.out.2;omega) (by have:=qxo.out;omega)).mono ?_;rintro e W6 ⟨rfl,jQ⟩;have vL:=QH (q9 jt.out jQ);have HI6:=QH (HI5.out.below jQ);have hS:=rW.out.below jQ;obtain⟨P2,hP2⟩:=QE (P1++xU fl);have nR:=QH hP2;have q2R:Hid (P2.length≤2300):=by
    unfold Hid;rw[← hP2,List.length_append];have:=qxo.out;have:=qz fl.toNat;unfold xU;omega
   rw[hP2];have x2:=hS.cell 2;have hlx:=hS.lt;simp only[snC,QA,QB,QC]at x2;clear jQ hS hP2 x3 rW HI5;go_wp2_with fail;refine(kr P2 B cb x.qj W6 HI6.out.ints HSF.out.2.2 (by have:=q2R.out;omega) (by have:=HSF.out.2.1;omega)).mono ?_;rintro e W7 ⟨rfl,hb7⟩;have HB7:=QH (q9 vL.out hb7);have HE:Hid (P2++zg x.qj=L3++yK (m.qa.take (k+1))):=by
    unfold Hid;rw[wM.out,← nR.out,← HP1.out,← HP.out,← HFL.out];unfold spB;rw[qn7];simp only[List.append_assoc]
   rw[HE.out];clear hb7 x2 hlx;go_wp2_with fail;go_roundw;case rel=>exact⟨k+1,by rw[HLEN.out];omega,by go_num,rfl,HB7.out⟩
   case measure=>simp[intOf];omega
  ·have jY:¬ (k:Int)<(len:Int):=by omega
   obtain rfl:k=len:=by omega
   have HE:Hid (P=L3++yK m.qa):=by
    unfold Hid;rw[← HP.out,List.take_of_length_le (by have:=HLEN.out;omega)]
   have ha:=HAW.out;have a2:=ha.cell 2;have a3:=ha.cell 3;have a4:=ha.cell 4;have a5:=ha.cell 5;have a6:=ha.cell 6;have a7:=ha.cell 7;have a8:=ha.cell 8;have ep:=ha.lt;simp only[zi,QA,QB,QC]at a2 a3 a4 a5 a6 a7 a8;have HT:=QH (rX P m.tok A2 d2 wr HMW.out.qj HF.out.tok (by have:=nQ.out;omega));unfold wG at HT;clear ha HP;go_wp2_with fail;refine HT.out.mono ?_;rintro e W4 ⟨rfl,hb4⟩;have zU:=QH (q9 (q9 zf.out jZ.out) hb4);have HE2:Hid (P++tkP m.tok=zn m.live.length++(zg m.live++(zn m.qa.length++(yK m.qa++tkP m.tok)))):=by
    unfold Hid;rw[HE.out,HL3.out];simp only[List.append_assoc]
   rw[HE2.out];clear hb4 a2 a3 a4 a5 a6 a7 a8 HT;go_wp2_with fail;go_ret;exact⟨rfl,zU.out⟩
theorem qeP(v:Value)(m:Mt)(w:World)(h:rL w v m)(hs:mtS m):Calls prog 93 #[v] w (qw5 (wy m) w):=by
 have hmB:=h.mB;obtain⟨A0,A1,A2,d0,d1,d2,rfl,hm⟩:=h;have HMB:=QH hmB;have eM:=QH hs;have hb:=(Below.refl w.heap.size w).alloc (Nat.le_refl _) (.cells (zi A0 A1 A2 d0 d1 d2 m) 93);have ha:=qg.new w 93 (zi A0 A1 A2 d0 d1 d2 m);obtain⟨W,hW⟩:=QE (w.alloc (.cells (zi A0 A1 A2 d0 d1 d2 m) 93));rw[hW]at hb ha;have HM:=QH (hm.below hb);have HB:=QH hb;have HA:=QH ha;have a0:=ha.cell 0;have a1:=ha.cell 1;have a2:=ha.cell 2;have a3:=ha.cell 3;have a4:=ha.cell 4;have a5:=ha.cell 5;have a6:=ha.cell 6;have a7:=ha.cell 7;have a8:=ha.cell 8;have ep:=ha.lt;simp only[zi,QA,QB,QC]at a0 a1 a2 a3 a4 a5 a6 a7 a8;have HC:=QH (py (.agg (zi A0 A1 A2 d0 d1 d2 m)) m (m.live.length:Int) 1024 W ⟨_,_,_,_,_,_,rfl,HM.out⟩ hs (by unfold qD;have:=hs.live;omega) (by unfold qD;omega));clear hb ha hm hs hmB;have qn9:Hid (wy m=if xj m m.live.length 1024≠0 then([],xj m m.live.length 1024)else if 48<nsec (zx m).length then([],3)else(zx m,0)):=rfl;have HPF:Hid (xj m m.live.length 1024=0→qtA m∧tkP m.tok=tkB m.tok):=fun hq=>qn8 HMB.out hq;obtain⟨er,her⟩:=QE (xj m m.live.length 1024);rw[her]at HC qn9 HPF;unfold zi at hW HC ⊢;clear her;go_enter func93,ntmps93;go_upto_region 1 with fail;try rw[hW]
 clear hW;go_wp2_with fail;refine HC.out.mono ?_;rintro e W1 ⟨rfl,hb1⟩;have zk:=QH (q9 HB.out hb1);have HM1:=QH (HM.out.below hb1);have ha:=HA.out.below hb1;clear hb1 HC a0 a1 a2 a3 a4 a5 a6 a7 a8 ep;by_cases he:er=0
 ·subst he;obtain⟨hpf,iG⟩:=HPF.out rfl;have HPU:=QH (km A0 A1 A2 d0 d1 d2 m W1 HM1.out hpf);have qxp:Hid (zn m.live.length++(zg m.live++(zn m.qa.length++(yK m.qa++tkP m.tok)))=zx m):=by unfold Hid;rw[iG];rfl
  rw[qxp.out]at HPU;have HLB:Hid ((zx m).length≤100000):=by
   unfold Hid;rw[← qxp.out];have t1:=bH m.qa (fun x hx=>(hpf.qa x hx).2.1);have t2:=hpf.qxl;have t3:=hpf.few;have t4:=qz m.live.length;have t5:=ja m.live;have t6:=qz m.qa.length;have t7:(tkP m.tok).length≤1000:=by
    unfold tkP;split
    ·have:=qz 0;omega
    ·have:=qz 1;have:=qz m.tok.base.1;have:=qz m.tok.base.2;have:=qz m.tok.target.1;have:=qz m.tok.target.2;have:=qz m.tok.next.toNat;have:=qz m.tok.all.toNat;have:=ja m.tok.qj;have:=hpf.tok.few;unfold jG xU;simp only[List.length_append];omega
   simp only[List.length_append];omega
  obtain⟨L,hL⟩:=QE (zx m);rw[hL]at HPU HLB qn9;have HFI:Hid (wy m=qg2 L):=by unfold Hid;rw[qn9.out,if_neg (by simp)];rfl
  have a0:=ha.cell 0;have a1:=ha.cell 1;have a2:=ha.cell 2;have a3:=ha.cell 3;have a4:=ha.cell 4;have a5:=ha.cell 5;have a6:=ha.cell 6;have a7:=ha.cell 7;have a8:=ha.cell 8;have ep:=ha.lt;simp only[zi,QA,QB,QC]at a0 a1 a2 a3 a4 a5 a6 a7 a8;unfold zi at HPU;clear hpf iG hL ha;go_wp2_with fail;refine HPU.out.mono ?_;rintro e W2 ⟨rfl,hb2⟩;have qG:=QH (q9 zk.out hb2);clear hb2 a0 a1 a2 a3 a4 a5 a6 a7 a8 ep;go_wp2_with fail;refine(qn4 L W2 HLB.out).mono ?_;rintro e _ ⟨rfl,rfl⟩;rw[← HFI.out];go_wp2_with fail;go_ret2;exact⟨rfl,qG.out⟩
 ·have hne:(er != 0)=true:=by simpa using he
  have HR:Hid (wy m=([],er)):=by unfold Hid;rw[qn9.out,if_pos he]
  clear he ha;go_wp2_with fail;go_ret2;exact⟨by rw[HR.out];rfl,zk.out⟩
end Go.Proofs.YtdagdllomphidaaGreatDoor.mt.pg
namespace Go.Proofs.YtdagdllomphidaaGreatDoor.mt.pg
open _root_.Go.Proofs.Tryz Go Go.RowKit Go.Proofs.YtdagdllomphidaaGreatDoor.ib Go.Proofs.YtdagdllomphidaaGreatDoor.wi Go.Proofs.YtdagdllomphidaaGreatDoor.im Go.Proofs.YtdagdllomphidaaGreatDoor.mt
theorem eN {fn:Func}{p q:Tmp}{ty:TypeId}(h:fn.results = #[.cell p ty,.tmp q])(tmps:Array Value)(P:Program)(w:World)(a:Addr)(v1 v2:Value)
    (hp:tmps.getD p undef=.pointer (some a)) (hq:tmps.getD q undef=v2) (h1:(loadVar ty a).run P w=.ok v1 w):(results fn tmps).run P w=.ok (.tuple #[v1,v2]) w:=by
 simp only[results,h];simp only[Array.getD_eq_getD_getElem?]at hp hq;simp[Sem.run_bind,Result.andThen,asAddr,hp,hq,h1]
end Go.Proofs.YtdagdllomphidaaGreatDoor.mt.pg
namespace Go.Proofs.YtdagdllomphidaaGreatDoor.mt
open _root_.Go.Proofs.Tryz Go Go.RowKit Go.Proofs.YtdagdllomphidaaGreatDoor.ib
end Go.Proofs.YtdagdllomphidaaGreatDoor.mt
namespace Go.Proofs.YtdagdllomphidaaGreatDoor.dk
abbrev Bt:=List UInt8
abbrev qA:=List (Option Bt)
def zz:Bt:=List.replicate 32 0
def rep (c:UInt8)(n:Nat):Bt:=List.replicate n c
def eG (c:UInt8):Bt:=if c.toNat≤250 then rep c 32 else rep c (c.toNat%31)
theorem qI:zz.length=32:=by simp[zz]
def look (s:qA)(k:Int):Option Bt:=if 0≤k then(s[k.toNat]?).getD none else none
def put (s:qA)(k:Nat)(v:Bt):qA:=s.set k (some v)
def cnt (s:qA):Nat:=s.countP Option.isSome
theorem bI (s:qA)(k:Nat):look s (k:Int)=(s[k]?).getD none:=by simp[look]
theorem zC (s:qA)(k:Nat)(o:Option Bt)(h:k<s.length):look (s.set k o) (k:Int)=o:=by
 rw[bI,List.getElem?_set_self h];rfl
theorem zQ (s:qA)(k:Nat)(j:Int)(o:Option Bt)(h:j≠(k:Int)):look (s.set k o) j=look s j:=by
 unfold look;split
 ·rw[List.getElem?_set_ne (by omega)]
 ·rfl
theorem qeQ(s:qA)(k:Nat)(u:Bt)(h:k<s.length)(hx:s[k]=some u):1≤cnt s :=
 List.countP_pos_iff.2 ⟨_,List.getElem_mem h,by rw[hx];rfl⟩
theorem vM (s:qA)(k:Nat)(v:Bt)(h:k<s.length):cnt (s.set k (some v))=if (look s (k:Int)).isSome then cnt s else cnt s+1:=by
 unfold cnt;rw[List.countP_set h,bI,List.getElem?_eq_getElem h];cases hx:s[k]with
 | none=>simp
 | some u =>
  have hle:=qeQ s k u h hx;unfold cnt at hle;simp;omega
theorem rY (s:qA)(k:Nat)(h:k<s.length):cnt (s.set k none)+(if (look s (k:Int)).isSome then 1 else 0)=cnt s:=by
 unfold cnt;rw[List.countP_set h,bI,List.getElem?_eq_getElem h];cases hx:s[k]with
 | none=>simp
 | some u =>
  have hle:=qeQ s k u h hx;unfold cnt at hle;simp;omega
theorem rZ (s:qA):cnt s≤s.length:=List.countP_le_length
structure DD where
 room:Int
 base:qA
 more:List (Nat × Bt)
 on:Bool
 qi:Int
def qK (s:qA)(l:List (Nat × Bt)):qA:=l.foldl (fun s w=>put s w.1 w.2) s
theorem zm:∀(l:List (Nat × Bt)) (s:qA),(qK s l).length=s.length
 | [],_=>rfl
 | w::l,s=>by rw[qK,List.foldl_cons,← qK,zm l];simp[put]
theorem dH (s:qA)(w:Nat × Bt)(l:List (Nat × Bt)):qK s (w::l)=qK (put s w.1 w.2) l:=rfl
theorem uT (s:qA)(l:List (Nat × Bt))(w:Nat × Bt):qK s (l++[w])=put (qK s l) w.1 w.2:=by simp[qK]
theorem jb (s:qA)(l r:List (Nat × Bt)):qK s (l++r)=qK (qK s l) r:=by simp[qK]
def DD.n (d:DD):Nat:=d.base.length
def DD.now (d:DD):qA:=qK d.base d.more
theorem DD.yo(d:DD):d.now.length=d.n:=zm _ _
def DD.used(d:DD):Nat:=cnt d.now
def DD.has (d:DD)(at_:Int):Bool:=decide (0≤at_)&&decide (at_<(d.n:Int))
structure DD.ok(d:DD)(most:Nat):Prop where
 n0:1≤d.n
 n1:d.n≤1024
 qxq:0≤d.room
 qjP:d.room≤9223372036854775807
 qeR:0≤d.qi
 qeS:d.qi≤9223372036854775807
 lG:d.more.length≤most
 at1:∀w∈d.more,w.1<d.n∧w.2.length=32
 pz:∀v,some v∈d.base→v.length=32
theorem DD.ok.mono{d:DD}{m m':Nat}(h:d.ok m)(hm:m≤m'):d.ok m':={ h with lG:=Nat.le_trans h.lG hm }
theorem mem_set{s:qA}{k:Nat}{o:Option Bt}{v:Bt}(h:some v∈s.set k o):some v∈s∨o=some v:=by
 rcases List.mem_or_eq_of_mem_set h with h|h
 ·exact .inl h
 ·exact .inr h.symm
theorem uU {l:List (Nat × Bt)}:∀ {s:qA},(∀v,some v∈s→v.length=32)→(∀w∈l,w.2.length=32)→∀v,some v∈qK s l→v.length=32:=by
 induction l with
 | nil=>intro s h _ v hv;exact h v hv
 | cons w l ih =>
  intro s h hl v hv;refine ih (s:=put s w.1 w.2) (fun u hu=>?_) (fun x hx=>hl x (by simp[hx])) v hv;rcases mem_set hu with h' | h'
  ·exact h u h'
  ·injection h' with h';subst h';exact hl w (by simp)
theorem DD.ok.qxr{d:DD}{m:Nat}(h:d.ok m):∀v,some v∈d.now→v.length=32:=uU h.pz (fun w hw=>(h.at1 w hw).2)
theorem qaE{s:qA}{k:Int}{v:Bt}(h:look s k=some v):some v∈s:=by
 unfold look at h;split at h
 ·cases hx:s[k.toNat]? with
  | none=>rw[hx]at h;simp at h
  | some o=>rw[hx]at h;simp at h;subst h;exact List.mem_of_getElem? hx
 ·cases h
theorem DD.ok.pA{d:DD}{m:Nat}(h:d.ok m){k:Int}{v:Bt}(hv:look d.now k=some v):v.length=32:=h.qxr v (qaE hv)
def yN:qA→List (Nat × Bt)→List (Nat × Bt × Bt × Bool)
 | _,[]=>[]
 | s,(k,v)::r=>(k,v,(look s (k:Int)).getD zz,(look s (k:Int)).isSome)::yN (put s k v) r
theorem jc:∀(l:List (Nat × Bt)) (s:qA),(yN s l).length=l.length
 | [],_=>rfl
 | (k,v)::r,s=>by simp[yN,jc r]
theorem pB:∀(l:List (Nat × Bt)) (s:qA) (k:Nat) (v:Bt),
    yN s (l++[(k,v)])=yN s l++[(k,v,(look (qK s l) (k:Int)).getD zz,(look (qK s l) (k:Int)).isSome)]
 | [],s,k,v=>rfl
 | (j,u)::r,s,k,v=>by
  show _::yN (put s j u) (r++[(k,v)])=_;rw[pB r];rfl
def oa (s:qA)(x:Nat × Bt × Bt × Bool):qA:=if x.2.2.2 then put s x.1 x.2.2.1 else s.set x.1 none
theorem qjQ(s:qA)(k:Nat)(v:Bt):oa (put s k v) (k,v,(look s (k:Int)).getD zz,(look s (k:Int)).isSome)=s:=by
 unfold oa put;rw[bI];by_cases hk:k<s.length
 ·rw[List.getElem?_eq_getElem hk];cases hx:s[k]with
  | none=>simp[List.set_set];rw[← hx];exact List.set_getElem_self hk
  | some u=>simp[List.set_set];rw[← hx];exact List.set_getElem_self hk
 ·rw[List.getElem?_eq_none (by omega)];simp[List.set_eq_of_length_le (show s.length≤k by omega)]
theorem lH:∀(l:List (Nat × Bt)) (s:qA) (i:Nat) (h:i<l.length),
    (yN s l)[i]?=some (l[i].1,l[i].2,(look (qK s (l.take i)) (l[i].1:Int)).getD zz,(look (qK s (l.take i)) (l[i].1:Int)).isSome)
 | (k,v)::r,s,0,_=>rfl
 | (k,v)::r,s,i+1,h=>by
  simp only[yN,List.getElem?_cons_succ,List.getElem_cons_succ,List.take_succ_cons,dH];exact lH r (put s k v) i (by simpa using h)
theorem qgB(l:List (Nat × Bt))(s:qA)(i:Nat)(h:i<l.length)(x:Nat × Bt × Bt × Bool)(hx:(yN s l)[i]?=some x) :
    oa (qK s (l.take (i+1))) x=qK s (l.take i):=by
 rw[lH l s i h]at hx;injection hx with hx
 subst hx;rw[List.take_succ_eq_append_getElem h,show[l[i]]=[(l[i].1,l[i].2)]from rfl,uT];exact qjQ _ _ _
def stay (l:List (Nat × Bt))(keep:List Bool):List (Nat × Bt) :=
 match l,keep with
 | w::l,b::keep=>(if b then[w]else[])++stay l keep
 | _,_=>[]
theorem qaF(l:List (Nat × Bt)):stay l []=[]:=by cases l <;> rfl
theorem pC:∀(l:List (Nat × Bt)) (keep:List Bool) (k:Nat) (h:k<l.length),stay (l.take (k+1)) keep=stay (l.take k) keep++(if keep[k]?.getD false then[l[k]]else[])
 | w::l,[],k,h=>by simp[qaF]
 | w::l,b::keep,0,_=>by cases b <;> cases l <;> cases keep <;> simp[stay]
 | w::l,b::keep,k+1,h=>by
  simp only[List.take_succ_cons,stay,List.getElem?_cons_succ,List.getElem_cons_succ];rw[pC l keep k (by simpa using h),List.append_assoc]
 | [],_,_,h=>absurd h (by simp)
theorem bJ:∀(l:List (Nat × Bt)) (keep:List Bool) (w:Nat × Bt),w∈stay l keep→w∈l
 | [],keep,w,h=>by cases keep <;> simp[stay]at h
 | x::l,[],w,h=>by simp[stay]at h
 | x::l,b::keep,w,h=>by
  simp only[stay,List.mem_append]at h;rcases h with h|h
  ·cases b <;> simp at h;simp[h]
  ·exact List.mem_cons_of_mem _ (bJ l keep w h)
def DD.new (qnA:Nat)(room:Int):DD:={ room:=room,base:=List.replicate qnA none,more:=[],on:=true,qi:=0 }
def DD.off (d:DD):DD:={ d with on:=false,qi:=0 }
def DD.bK (d:DD)(keep:List Bool):DD:=if d.on then d else { d with base:=qK d.base (stay d.more keep),more:=[],on:=true }
def DD.oper(d:DD):DD:=if d.qi=1 then d.off else if 1<d.qi then { d with qi:=d.qi-1 }else d
def DD.write(d:DD)(at_:Int)(data:Bt):Int × DD :=
 if d.on=false then(6,d)
 else if d.has at_=false∨data.length≠32 then(2,d)
 else if (look d.now at_).isSome=false∧d.room≤(d.used:Int)then(7,d)
 else if d.oper.on=false then(6,d.oper)
 else(0,{ d.oper with more:=d.more++[(at_.toNat,data)] })
def DD.flush(d:DD):Int × DD :=
 if d.on=false then(6,d)
 else if d.oper.on=false then(6,d.oper)
 else(0,{ d.oper with base:=d.now,more:=[] })
def DD.read(d:DD)(at_:Int):Bt × Int :=
 if d.on=false then([],6)
 else if d.has at_=false then([],2)
 else((look d.now at_).getD zz,0)
def fresh (s:qA):List Int→List Int→List Int
 | acc,[]=>acc
 | acc,x::r=>if (look s x).isSome || acc.contains x then fresh s acc r else fresh s (acc++[x]) r
def DD.fits(d:DD)(l:List Int):Bool :=
 l.all d.has&&(decide ((fresh d.now [] l).length=0) || decide (((fresh d.now [] l).length:Int)≤d.room-(d.used:Int)))
end Go.Proofs.YtdagdllomphidaaGreatDoor.dk
namespace Go.Proofs.YtdagdllomphidaaGreatDoor.dk
open _root_.Go.Proofs.Tryz Go Go.RowKit
abbrev D1:=DataW Unit
def qjR:Value→D1
 | .int k a=>.lit (.int k a)
 | _=>.nil
def pD:Value→Option (D1 × List MemPlace)
 | .agg cs=>some (.agg (cs.toList.map qjR),[])
 | _=>none
def bL (v:Bt):Value:=.agg (Lib.byteCells v).toArray
def qdb (v:Bt):D1:=.agg ((Lib.byteCells v).map qjR)
theorem lI (v:Bt):pD (bL v)=some (qdb v,[]):=by simp[pD,bL,qdb]
theorem qaG:∀(l:List Value) (v:Bt),l.map qjR=(Lib.byteCells v).map qjR→l=Lib.byteCells v
 | [],[],_=>rfl
 | x::l,[],h=>by simp[Lib.byteCells]at h
 | [],b::v,h=>by simp[Lib.byteCells]at h
 | x::l,b::v,h=>by
  simp only[Lib.byteCells,List.map_cons,List.cons.injEq]at h ⊢;refine⟨?_,qaG l v h.2⟩;have h1:=h.1;cases x <;> simp[qjR]at h1;rw[h1.1,h1.2]
theorem pE {x:Value}{v:Bt}{ps:List MemPlace}(h:pD x=some (qdb v,ps)):x=bL v:=by
 cases x <;> simp[pD,qdb]at h;rename_i cs;have:=qaG cs.toList v (by simpa using h.1);rw[bL,← this]
theorem qnB:bL zz=.agg #[Value.int IntKind.u8 0,Value.int IntKind.u8 0,Value.int IntKind.u8 0,Value.int IntKind.u8 0,Value.int IntKind.u8 0,Value.int IntKind.u8 0,Value.int IntKind.u8 0,Value.int IntKind.u8 0,Value.int IntKind.u8 0,Value.int IntKind.u8 0,Value.int IntKind.u8 0,Value.int IntKind.u8 0,Value.int IntKind.u8 0,Value.int IntKind.u8 0,Value.int IntKind.u8 0,Value.int IntKind.u8 0,Value.int IntKind.u8 0,Value.int IntKind.u8 0,Value.int IntKind.u8 0,Value.int IntKind.u8 0,Value.int IntKind.u8 0,Value.int IntKind.u8 0,Value.int IntKind.u8 0,Value.int IntKind.u8 0,Value.int IntKind.u8 0,Value.int IntKind.u8 0,Value.int IntKind.u8 0,Value.int IntKind.u8 0,Value.int IntKind.u8 0,Value.int IntKind.u8 0,Value.int IntKind.u8 0,Value.int IntKind.u8 0]:=rfl
def zA (w:World)(m:Nat)(s:qA):Prop :=
 ∃D:D1,w.ownsMap prog 3 pD m (Maps.size D) D∧(∀k:Int,Maps.has D (.int .i64 k)=(look s k).isSome) ∧
  (∀(k:Int) v,look s k=some v→∀z,D.atKey (.int .i64 k) z=qdb v)∧Maps.size D=cnt s
theorem eO {w:World}{b n:Nat}{D:D1}{P:Program}{k:TypeId}{R:Value→Option (D1 × List MemPlace)}(h:w.ownsMap P k R b n D):w.ownsMap P k R b (Maps.size D) D:=by
 obtain⟨es,clock,hb,F,_,rfl⟩:=h;exact⟨es,clock,hb,F,by simp[Maps.size,length_sorted],rfl⟩
theorem zA.lt{w:World}{m:Nat}{s:qA}(h:zA w m s):m<w.heap.size:=by
 obtain⟨D,h1,_⟩:=h;exact h1.lt
theorem zA.of_block{w w':World}{m:Nat}{s:qA}(h:zA w m s)(hb:w'.heap[m]?=w.heap[m]?):zA w' m s:=by
 obtain⟨D,⟨es,clock,h1,h2⟩,h3⟩:=h;exact⟨D,⟨es,clock,hb.trans h1,h2⟩,h3⟩
theorem zA.made(w:World)(n:Nat):zA (w.alloc (.map #[] 0)) w.heap.size (List.replicate n none):=by
 have hl:∀k:Int,look (List.replicate n none) k=none:=by
  intro k;unfold look;split
  ·simp only[List.getElem?_replicate];split <;> rfl
  ·rfl
 refine⟨.map [],World.ownsMap_made w prog 3 pD,fun k=>by rw[hl];rfl,fun k v h=>(by rw[hl]at h;cases h),?_⟩;simp[Maps.size,cnt,List.countP_replicate]
theorem qdc(k:Int):WideAt.IsKeyLit (Lit.int .i64 k):=trivial
abbrev keyed:Go.Maps.Keyed prog 3:=Go.Maps.int_keyed underlying3
theorem qnC(k:Int)(h0 : -9223372036854775808≤k)(h1:k≤9223372036854775807):(Lit.int .i64 k).wf=true:=WalkArith.wf_i64 (by omega)
theorem zA.find{w:World}{m:Nat}{s:qA}(h:zA w m s)(k:Int)(h0 : -9223372036854775808≤k)(h1:k≤9223372036854775807) :
    (Instr.lookup 104 (.map (some m)) (.int .i64 k) true).run prog w=.ok (.tuple #[bL ((look s k).getD zz),.bool (look s k).isSome]) w ∧
    (Instr.lookup 104 (.map (some m)) (.int .i64 k) false).run prog w=.ok (bL ((look s k).getD zz)) w:=by
 obtain⟨D,hown,hh,ha,_⟩:=h;have hkey:=Go.Maps.keyOf_int_mk (P:=prog) (k:=3) underlying3 (qnC k h0 h1);have hz:(zeroValue 123).run prog w=.ok (bL zz) w:=by rw[qnB];exact zeroValue123 w
 have hat:D.atKey (.int .i64 k) (qdb zz)=qdb ((look s k).getD zz):=by
  cases hx:look s k with
  | none=>exact Maps.atKey_of_not_has (by rw[hh,hx];rfl) _
  | some v=>exact ha k v hx _
 obtain⟨v,ps,hrun,hv⟩:=hown.look_ok keyed underlying104 hz (lI zz) hkey;obtain⟨v2,ps2,fU,hv2⟩:=hown.lookup keyed underlying104 hz (lI zz) hkey;rw[hat]at hv hv2;rw[pE hv,hh]at hrun;rw[pE hv2]at fU;exact⟨hrun,fU⟩
theorem zA.len{w:World}{m:Nat}{s:qA}(h:zA w m s)(ty:TypeId):(Builtin.len_ #[104] ty #[.map (some m)]).run prog w=.ok (.int .i64 (cnt s:Int)) w:=by
 obtain⟨D,hown,_,_,hc⟩:=h;rw[← hc];exact hown.len underlying104 ty
theorem lJ {a b:Int}(h:a≠b):(Lit.int .i64 a)≠Lit.int .i64 b:=fun e=>h (by injection e)
theorem zA.store{w:World}{m:Nat}{s:qA}(h:zA w m s)(k:Nat)(v:Bt)(hk:k<s.length)(h1:s.length≤1024) :
    ∃w',(Instr.mapUpdate 104 (.map (some m)) (.int .i64 (k:Int)) (bL v)).run prog w=.ok () w'∧zA w' m (put s k v)∧w.mapTurned w' m:=by
 obtain⟨D,hown,hh,ha,hc⟩:=h;have hkey:=Go.Maps.keyOf_int_mk (P:=prog) (k:=3) underlying3 (qnC (k:Int) (by omega) (by omega));have hti:=hown.tidy keyed;have hcl:=rZ s;obtain⟨w',hrun,r1,r2⟩:=hown.store keyed underlying104 (by unfold maxLen;omega) hkey (lI v);refine⟨w',hrun,⟨_,eO r1,?_,?_,?_⟩,r2⟩
 ·intro j;by_cases e:j=(k:Int)
  ·subst e;rw[Maps.has_put_same hti.isMap (qdc _),put,zC _ _ _ hk];rfl
  ·rw[Maps.has_put_other (lJ e),put,zQ _ _ _ _ e,hh]
 ·intro j u hu z;by_cases e:j=(k:Int)
  ·subst e;rw[put,zC _ _ _ hk]at hu;injection hu with hu
   subst hu;exact Maps.atKey_put_same hti.isMap (qdc _) _ _
  ·rw[put,zQ _ _ _ _ e]at hu;rw[Maps.atKey_put_other (lJ e)];exact ha j u hu z
 ·rw[Maps.size_put hti,put,vM _ _ _ hk,hh,hc]
theorem zA.drop{w:World}{m:Nat}{s:qA}(h:zA w m s)(k:Nat)(hk:k<s.length)(h1:s.length≤1024)(ty:TypeId) :
    ∃w',(Builtin.delete_ #[104,3] ty #[.map (some m),.int .i64 (k:Int)]).run prog w=.ok (.tuple #[]) w'∧zA w' m (s.set k none)∧w.mapTurned w' m:=by
 obtain⟨D,hown,hh,ha,hc⟩:=h;have hkey:=Go.Maps.keyOf_int_mk (P:=prog) (k:=3) underlying3 (qnC (k:Int) (by omega) (by omega));have hti:=hown.tidy keyed;obtain⟨w',hrun,r1,r2⟩:=hown.drop keyed underlying104 hkey ty;refine⟨w',hrun,⟨_,eO r1,?_,?_,?_⟩,r2⟩
 ·intro j;by_cases e:j=(k:Int)
  ·subst e;rw[Maps.has_del_same,zC _ _ _ hk];rfl
  ·rw[Maps.has_del_other (lJ e),zQ _ _ _ _ e,hh]
 ·intro j u hu z;by_cases e:j=(k:Int)
  ·subst e;rw[zC _ _ _ hk]at hu;cases hu
  ·rw[zQ _ _ _ _ e]at hu;rw[Maps.atKey_del_other (lJ e)];exact ha j u hu z
 ·have g1:=Maps.size_del (k:=.int .i64 (k:Int)) hti;have g2:=rY s k hk;rw[hh]at g1;omega
def qg (w:World)(g:Nat)(t:TypeId)(cs:Array Value):Prop:=w.heap[g]?=some (.cells cs t (0,0))
section
variable {w w':World} {g:Nat} {t:TypeId} {cs:Array Value}
theorem qg.lt(h:qg w g t cs):g<w.heap.size:=by
 unfold qg at h;exact(Array.getElem?_eq_some_iff.1 h).1
theorem qg.cell(h:qg w g t cs)(i:Nat):w.cell? ⟨g,i,none⟩=cs[i]? :=cell_of_row w g i cs t (0,0) h
theorem qg.frozen(h:qg w g t cs)(i:Nat):w.frozen? ⟨g,i,none⟩=false:=by
 unfold qg at h;simp[World.frozen?,h]
theorem qg.new(w:World)(t:TypeId)(cs:Array Value):qg (w.alloc (.cells cs t)) w.heap.size t cs:=heap_alloc_new w _
theorem qg.of_block(h:qg w g t cs)(hb:w'.heap[g]?=w.heap[g]?):qg w' g t cs:=hb.trans h
theorem qg.qo(h:qg w g t cs)(i:Nat)(u:Value):qg (w.setCell ⟨g,i,none⟩ u) g t (cs.setIfInBounds i u):=heap_setCell_same w g i cs t u h
end
structure qB(S:Nat→Prop)(w w':World):Prop where
 os:w'.os=w.os
 tape:w'.tape=w.tape
 output:w'.output=w.output
 size:w.heap.size≤w'.heap.size
 block:∀k,k<w.heap.size→¬ S k→w'.heap[k]?=w.heap[k]?
section
variable {S S':Nat→Prop} {a b c w w':World}
theorem qB.refl(S:Nat→Prop)(w:World):qB S w w:=⟨rfl,rfl,rfl,Nat.le_refl _,fun _ _ _=>rfl⟩
theorem qB.trans(h:qB S a b)(k:qB S' b c)(hs:∀i,S' i→S i∨a.heap.size≤i):qB S a c :=
 ⟨k.os.trans h.os,k.tape.trans h.tape,k.output.trans h.output,Nat.le_trans h.size k.size,fun i hi hn=>by
  refine(k.block i (Nat.lt_of_lt_of_le hi h.size) (fun e=>?_)).trans (h.block i hi hn);rcases hs i e with h1|h1
  ·exact hn h1
  ·omega⟩
theorem qB.mono(h:qB S w w')(hs:∀i,S i→S' i):qB S' w w':=⟨h.os,h.tape,h.output,h.size,fun k hk hn=>h.block k hk (fun e=>hn (hs k e))⟩
theorem qB.of_below(h:Below w.heap.size w w'):qB S w w':=⟨h.os,h.tape,h.output,h.size,fun k hk _=>h.block k hk⟩
theorem qB.qaH{row:Option Nat}(h:w.grownBy w' row)(hs:∀k,row=some k→S k):qB S w w' :=
 ⟨h.os,h.tape,h.output,h.size,fun k hk hn=>h.block k hk (fun e=>hn (hs k e.symm))⟩
theorem qB.drew(h:qB S a w):qB S a w.drew:=⟨h.os,h.tape,h.output,h.size,h.block⟩
theorem qB.drewN(h:qB S a w)(n:Nat):qB S a (w.drewN n):=⟨h.os,h.tape,h.output,h.size,h.block⟩
theorem qB.alloc(h:qB S a w)(o:Obj):qB S a (w.alloc o) :=
 h.trans (S':=fun _=>False) ⟨rfl,rfl,rfl,by simp,fun k hk _=>Below.heap_alloc _ _ _ hk⟩ (fun _ e=>e.elim)
theorem qB.setCell(h:qB S a w)(p:Addr)(u:Value)(hp:S p.block∨a.heap.size≤p.block):qB S a (w.setCell p u) :=
 h.trans (S':=fun k=>k=p.block) ⟨rfl,rfl,rfl,by simp[World.setCell],fun k _ hn=>Below.heap_setCell _ _ _ _ hn⟩ (fun i e=>by rw[e];exact hp)
theorem qB.grown{row:Option Nat}(h:qB S a w)(hg:w.grownBy w' row)(hs:∀k,row=some k→S k∨a.heap.size≤k):qB S a w' :=
 h.trans (S':=fun k=>row=some k) (qB.qaH hg (fun _ e=>e)) hs
theorem qB.below{B:Nat}(h:qB S a w)(hs:∀i,S i→B≤i)(hB:B≤a.heap.size):Below B a w :=
 ⟨h.os,h.tape,h.output,h.size,fun k hk=>h.block k (by omega) (fun e=>by have:=hs k e;omega)⟩
end
def qf (x:Nat × Bt × Bt × Bool):List Value:=.int .i64 (x.1:Int)::(Lib.byteCells x.2.1++(Lib.byteCells x.2.2.1++[.bool x.2.2.2]))
def yC (l:List (Nat × Bt × Bt × Bool)):List Value:=l.flatMap qf
theorem ze {w w':World}{base e size n:Nat}{v:Value}{xs:List Value}(h:w.ownsRow base e size v n xs)(hb:∀k,v.ownBlock=some k→w'.heap[k]?=w.heap[k]?):w'.ownsRow base e size v n xs:=by
 refine⟨h.1,?_⟩;rcases h.2 with hn|⟨g,cap,cur,rfl,h1,h2,r⟩
 ·exact .inl hn
 ·exact .inr ⟨g,cap,cur,rfl,h1,(hb g rfl).trans h2,r⟩
theorem jk {w:World}{base e size n:Nat}{v:Value}{xs:List Value}(h:w.ownsRow base e size v n xs):∀k,v.ownBlock=some k→k<w.heap.size:=by
 intro k hk;rcases h.2 with⟨rfl,_⟩|⟨g,cap,cur,rfl,h1,h2,r⟩
 ·cases hk
 ·simp[Value.ownBlock]at hk;subst hk;exact(Array.getElem?_eq_some_iff.1 h2).1
def kP (w:World)(own:Nat→Prop)(p m:Nat)(v:Value)(d:DD):Prop :=
 qg w p 107 #[.int .i64 (d.n:Int),.int .i64 d.room,.map (some m),v,.bool d.on,.int .i64 d.qi]∧zA w m d.now ∧
 w.ownsRow 0 125 66 v d.more.length (yC (yN d.base d.more)) ∧
 own p∧own m∧(∀k,v.ownBlock=some k→own k)∧(∀k,own k→k<w.heap.size)
def zj (most:Nat)(w:World)(own:Nat→Prop)(p:Nat)(d:DD):Prop:=d.ok most∧∃m v,kP w own p m v d
theorem kP.ne{w:World}{own:Nat→Prop}{p m:Nat}{v:Value}{d:DD}(h:kP w own p m v d):p≠m∧(∀k,v.ownBlock=some k→k≠p∧k≠m):=by
 obtain⟨h1,⟨D,⟨es,clock,h2,_⟩,_⟩,h3,_⟩:=h;unfold qg at h1;refine⟨?_,?_⟩
 ·rintro rfl;rw[h1]at h2;cases h2
 ·intro k hk;rcases h3.2 with⟨rfl,_⟩|⟨g,cap,cur,rfl,_,hg,_⟩
  ·cases hk
  ·simp[Value.ownBlock]at hk;subst hk;refine⟨?_,?_⟩
   ·rintro rfl;rw[h1]at hg;simp only[Option.some.injEq,Obj.cells.injEq]at hg;exact absurd hg.2.1 (by decide)
   ·rintro rfl;rw[h2]at hg;cases hg
theorem kP.keep{w w':World}{own:Nat→Prop}{p m:Nat}{v:Value}{d:DD}(h:kP w own p m v d)(hs:w.heap.size≤w'.heap.size)(hb:∀k,own k→w'.heap[k]?=w.heap[k]?):kP w' own p m v d:=by
 obtain⟨h1,h2,h3,hp,hm,hv,hl⟩:=h;exact⟨h1.of_block (hb _ hp),h2.of_block (hb _ hm),ze h3 (fun k hk=>hb k (hv k hk)),hp,hm,hv,fun k hk=>Nat.lt_of_lt_of_le (hl k hk) hs⟩
theorem zj.keep{most:Nat}{w w':World}{own:Nat→Prop}{p:Nat}{d:DD}(h:zj most w own p d)(hs:w.heap.size≤w'.heap.size)(hb:∀k,own k→w'.heap[k]?=w.heap[k]?):zj most w' own p d:=by
 obtain⟨h0,m,v,h1⟩:=h;exact⟨h0,m,v,h1.keep hs hb⟩
def kQ (own vN:Nat→Prop)(w:World):Prop:=∀k,vN k→own k∨w.heap.size≤k
theorem kQ.refl(own:Nat→Prop)(w:World):kQ own own w:=fun _ h=>.inl h
def xd (most:Nat)(own:Nat→Prop)(p:Nat)(d:DD)(r:Value)(w:World)(e:Ending)(w':World):Prop :=
 e=.returned r∧∃vN,zj most w' vN p d∧qB own w w'∧kQ own vN w
end Go.Proofs.YtdagdllomphidaaGreatDoor.dk
namespace Go.Proofs.YtdagdllomphidaaGreatDoor.dk
open _root_.Go.Proofs.Tryz Go Go.RowKit
theorem qjS{ρ:Operand→Value}{o:Oper}{w:World}{b:Nat}{s:qA}(x:Operand)(ho:o.op=.call { callee:=.builtin .len,args:=#[x],argTypes:=#[104] })(hx:ρ x=.map (some b))(h:zA w b s) :
    (execOp ρ o).run prog w=.ok (.value (.int .i64 (cnt s:Int))) w:=by
 simp[execOp,ho,resolve,invoke,builtin,hx,h.len o.type,Result.andThen]
theorem vO {ρ:Operand→Value}{o:Oper}{w:World}{b:Nat}{s:qA}(x y:Operand)(ho:o.op=.lookup 104 x y true)(hx:ρ x=.map (some b))(h:zA w b s)
    (k:Int) (hy:ρ y=.int .i64 k) (h0 : -9223372036854775808≤k) (h1:k≤9223372036854775807) :
    (execOp ρ o).run prog w=.ok (.value (.tuple #[bL ((look s k).getD zz),.bool (look s k).isSome])) w:=by
 simp[execOp,ho,hx,hy,(h.find k h0 h1).1,Result.andThen]
theorem qgC{ρ:Operand→Value}{o:Oper}{w:World}{b:Nat}{s:qA}(x y:Operand)(ho:o.op=.lookup 104 x y false)(hx:ρ x=.map (some b))(h:zA w b s)
    (k:Int) (hy:ρ y=.int .i64 k) (h0 : -9223372036854775808≤k) (h1:k≤9223372036854775807) :
    (execOp ρ o).run prog w=.ok (.value (bL ((look s k).getD zz))) w:=by
 simp[execOp,ho,hx,hy,(h.find k h0 h1).2,Result.andThen]
theorem jS {ops:Array Oper}{rest:List Oper}{o:Oper}{a:Act}{w:World}{Q:Exit→Act→World→Prop}{b:Nat}{s:qA}(hg:o.guard=none)(x y z:Operand)(ho:o.op=.mapUpdate 104 x y z)(hx:a.eval x=.map (some b))(h:zA w b s)
    (k:Nat) (hy:a.eval y=.int .i64 (k:Int)) (v:Bt) (hz:a.eval z=bL v) (hk:k<s.length) (h1:s.length≤1024)
    (hK:∀w',zA w' b (put s k v)→w.mapTurned w' b→wpList prog ops Q rest (a.put o.dst undef) w'):wpList prog ops Q (o::rest) a w:=by
 refine wpList_plain hg fun K' hK'=>?_;obtain⟨w',hrun,r1,r2⟩:=h.store k v hk h1;unfold Oper.wp;simp[execOp,ho,hx,hy,hz,hrun,Result.andThen];exact hK' _ _ (hK w' r1 r2)
theorem lK {ops:Array Oper}{rest:List Oper}{o:Oper}{a:Act}{w:World}{Q:Exit→Act→World→Prop}{b:Nat}{s:qA}(hg:o.guard=none)(x y:Operand)(ho:o.op=.call { callee:=.builtin .delete,args:=#[x,y],argTypes:=#[104,3] })(hx:a.eval x=.map (some b))(h:zA w b s)
    (k:Nat) (hy:a.eval y=.int .i64 (k:Int)) (hk:k<s.length) (h1:s.length≤1024)
    (hK:∀w',zA w' b (s.set k none)→w.mapTurned w' b→wpList prog ops Q rest (a.put o.dst (.tuple #[])) w'):wpList prog ops Q (o::rest) a w:=by
 refine wpList_plain hg fun K' hK'=>?_;obtain⟨w',hrun,r1,r2⟩:=h.drop k hk h1 o.type;unfold Oper.wp;simp[execOp,ho,resolve,invoke,builtin,hx,hy,hrun,Result.andThen];exact hK' _ _ (hK w' r1 r2)
theorem yq {w w':World}{b:Nat}(h:w.mapTurned w' b):qB (fun k=>k=b) w w':=qB.qaH h.grown (fun _ e=>by injection e with e;exact e.symm)
theorem zr {ρ:Operand→Value}{o:Oper}{P:Program}(w:World)(t:TypeId)(c c':Array Value)(x y:Operand)(ho:o.op=.store t x y)(hx:ρ x=.pointer (some ⟨w.heap.size,0,none⟩))(hy:ρ y=.agg c')
    (hi:(P.info? t).map (·.size)=some c'.size) (hoc:c.size=c'.size) (h1:c'.all (·.oneCell')=true) :
    (execOp ρ o).run P (w.alloc (.cells c t))=.ok .skip (w.alloc (.cells c' t)):=by
 have hr:=run_storeAt_new (P:=P) w t c c' hi hoc h1;simp[execOp,ho,hx,hy,hr,Result.andThen]
theorem eP (q:Bt):(Lib.byteCells q).toArray.all (·.oneCell')=true:=by
 rw[Array.all_eq_true'];intro u hu;exact Lib.byteCells_one q u (by simpa using hu)
theorem aC:(prog.info? 123).map (·.size)=some 32:=by kernel_rfl
theorem uV {P:Program}(w:World)(g o:Nat)(t ty:TypeId)(cs:Array Value)(xs:List Value)(fr:Nat × Nat)(d:TypeDesc)(hg:w.heap[g]?=some (.cells cs t fr))
    (hu:P.underlying ty=some d) (hd:(match d with | .struct _ | .array _ _=>true|_=>false)=true) (hi:(P.info? ty).map (·.size)=some xs.length) (hx:∀j u,xs[j]?=some u→cs[o+j]?=some u) :
    (loadVar ty ⟨g,o,none⟩).run P w=.ok (.agg xs.toArray) w:=by
 have hl:(loadCells ⟨g,o,none⟩ xs.length).run P w=.ok xs.toArray w :=
  run_loadCells_list (P:=P) w ⟨g,o,none⟩ xs (fun j v hv=>by
   rw[addr_add,cell_of_row w g (o+j) cs t fr hg];exact hx j v hv)
 cases hq:P.info? ty with
 | none=>simp[hq]at hi
 | some i =>
  have hs:i.size=xs.length:=by simpa[hq]using hi
  have hagg:(isAgg ty).run P w=.ok true w:=by
   unfold isAgg;rw[Sem.run_bind,run_underlying hu w];cases d <;> simp_all
  simp[loadVar,Sem.run_bind,hagg,sizeOf,typeInfo,hq,hs,hl]
theorem zR {ρ:Operand→Value}{o:Oper}{P:Program}{w:World}(ty:TypeId)(x:Operand)(ho:o.op=.load ty x)(g i:Nat)(hx:ρ x=.pointer (some ⟨g,i,none⟩))(t:TypeId)(cs:Array Value)(xs:List Value)(fr:Nat × Nat)(d:TypeDesc)
    (hg:w.heap[g]?=some (.cells cs t fr)) (hu:P.underlying ty=some d) (hd:(match d with | .struct _ | .array _ _=>true|_=>false)=true) (hi:(P.info? ty).map (·.size)=some xs.length) (hc:∀j u,xs[j]?=some u→cs[i+j]?=some u) :
    (execOp ρ o).run P w=.ok (.value (.agg xs.toArray)) w:=by
 simp only[execOp,ho,hx,Instr.loadAt,Instr.sureAddr,Sem.run_bind,Sem.run_pure,Result.andThen_ok,uV w g i t ty cs xs fr d hg hu hd hi hc]
section
variable {w:World} {p m:Nat} {v:Value} {d:DD} {own:Nat→Prop}
theorem ju {t:TypeId}{a b c e f g:Value}(h:qg w p t #[a,b,c,e,f,g]) :
    w.cell? ⟨p,0,none⟩=some a∧w.cell? ⟨p,1,none⟩=some b∧w.cell? ⟨p,2,none⟩=some c∧w.cell? ⟨p,3,none⟩=some e∧w.cell? ⟨p,4,none⟩=some f∧w.cell? ⟨p,5,none⟩=some g :=
 ⟨h.cell 0,h.cell 1,h.cell 2,h.cell 3,h.cell 4,h.cell 5⟩
theorem sf (h:kP w own p m v d) :
    Calls prog 45 #[.pointer (some ⟨p,0,none⟩)] w fun e w'=>e=.returned (.int .i64 (d.n:Int))∧w=w':=by
 obtain⟨c0,c1,c2,c3,c4,c5⟩:=ju h.1;clear h c1 c2 c3 c4 c5;go_enter func45,ntmps45;go_wp2;go_ret;exact⟨rfl,rfl⟩
theorem qjT(h:kP w own p m v d) :
    Calls prog 99 #[.pointer (some ⟨p,0,none⟩)] w fun e w'=>e=.returned (.bool d.on)∧w=w':=by
 obtain⟨c0,c1,c2,c3,c4,c5⟩:=ju h.1;clear h c1 c2 c3 c0 c5;go_enter func99,ntmps99;go_wp2;go_ret;exact⟨rfl,rfl⟩
theorem jE (h:kP w own p m v d)(k:Int) :
    Calls prog 134 #[.pointer (some ⟨p,0,none⟩),.int .i64 k] w fun e w'=>e=.returned (.bool (d.has k))∧w=w':=by
 obtain⟨c0,c1,c2,c3,c4,c5⟩:=ju h.1;clear h c1 c2 c3 c4 c5;have H:Hid (d.has k=(decide (0≤k)&&decide (k<(d.n:Int)))):=rfl;generalize d.has k=q at *;generalize (d.n:Int)=n at *;by_cases h0:0≤k
 ·by_cases h1:k<n
  ·have hq:q=true:=by rw[H.out];simp[h0,h1]
   clear H;subst hq;go_enter func134,ntmps134;go_wp2;go_ret;exact⟨rfl,rfl⟩
  ·have hq:q=false:=by rw[H.out];simp[h1]
   have h1':n≤k:=by omega
   clear H;subst hq;go_enter func134,ntmps134;go_wp2;go_ret;exact⟨rfl,rfl⟩
 ·have hq:q=false:=by rw[H.out];simp[h0]
  have h0':k<0:=by omega
  clear H;subst hq;go_enter func134,ntmps134;go_wp2;go_ret;exact⟨rfl,rfl⟩
theorem kP.turn{w':World}{d':DD}(h:kP w own p m v d)(hb:d'.base=d.base)(hm:d'.more=d.more)
    (hk:qg w' p 107 #[.int .i64 (d'.n:Int),.int .i64 d'.room,.map (some m),v,.bool d'.on,.int .i64 d'.qi]) (hs:w.heap.size≤w'.heap.size) (hr:∀k,k<w.heap.size→k≠p→w'.heap[k]?=w.heap[k]?):kP w' own p m v d':=by
 obtain⟨hpm,hv⟩:=h.ne;obtain⟨h1,h2,h3,hp,hm',hvo,hl⟩:=h;refine⟨hk,?_,?_,hp,hm',hvo,fun k hk=>Nat.lt_of_lt_of_le (hl k hk) hs⟩
 ·have:d'.now=d.now:=by unfold DD.now;rw[hb,hm]
  rw[this];exact h2.of_block (hr _ (hl _ hm') (fun e=>hpm e.symm))
 ·rw[hb,hm];exact ze h3 (fun k hk=>hr k (hl k (hvo k hk)) (hv k hk).1)
theorem zV (w:World)(p i:Nat)(u:Value)(k:Nat)(h:k≠p):(w.setCell ⟨p,i,none⟩ u).heap[k]?=w.heap[k]? :=Below.heap_setCell _ _ _ _ h
theorem size_set(w:World)(p:Addr)(u:Value):(w.setCell p u).heap.size=w.heap.size:=by simp[World.setCell]
theorem qeT{most:Nat}(h:zj most w own p d) :
    Calls prog 20 #[.pointer (some ⟨p,0,none⟩)] w (xd most own p d.off (.tuple #[]) w):=by
 obtain⟨h0,m,v,h1⟩:=h;have H:=QH h1;have H0:=QH h0;obtain⟨c0,c1,c2,c3,c4,c5⟩:=ju h1.1;have f4:=h1.1.frozen 4;have f5:=h1.1.frozen 5;clear h1 h0;go_enter func20,ntmps20;go_wp2
 go_end0
 refine⟨rfl,own,⟨{ H0.out with qeR:=Int.le_refl _,qeS:=(by show(0:Int)≤_;omega) },m,v,?_⟩,((qB.refl _ _).setCell _ _ (.inl H.out.2.2.2.1)).setCell _ _ (.inl H.out.2.2.2.1),kQ.refl _ _⟩;refine H.out.turn (d':=d.off) rfl rfl ((H.out.1.qo 4 _).qo 5 _) (by simp[size_set]) (fun k _ hk=>?_);rw[zV _ _ _ _ _ hk,zV _ _ _ _ _ hk]
theorem lL {most:Nat}(h:zj most w own p d)(zK:d.on=true) :
    Calls prog 179 #[.pointer (some ⟨p,0,none⟩)] w (xd most own p d.oper (.bool d.oper.on) w):=by
 have hd0:=QH h;obtain⟨h0,m,v,h1⟩:=h;have H:=QH h1;have H0:=QH h0;have f5:=h1.1.frozen 5;obtain⟨c0,c1,c2,c3,c4,c5⟩:=ju h1.1;have b0:=h0.qeR;have b1:=h0.qeS;rw[zK]at c4;clear h1 h0;by_cases e1:d.qi=1
 ·have hop:d.oper=d.off:=by unfold DD.oper;rw[if_pos e1]
  rw[hop];rw[e1]at c5;have hd1:zj most (w.setCell ⟨p,5,none⟩ (.int .i64 0)) own p { d with qi:=0 } :=
   ⟨{ H0.out with qeR:=Int.le_refl _,qeS:=(by show(0:Int)≤_;omega) },m,v,H.out.turn (d':={ d with qi:=0 }) rfl rfl (H.out.1.qo 5 _) (by simp[size_set]) (fun k _ hk=>zV _ _ _ _ _ hk)⟩
  have qxs:=QH (qeT hd1);have E1:=QH e1;clear e1 hop hd1 b0 b1;go_enter func179,ntmps179;go_wp2_with (go_at_call 20;refine qxs.out.mono ?_);rintro e w2 ⟨rfl,vN,hd2,hb2,hg2⟩;obtain⟨_,m2,v2,h2⟩:=hd2;have HD2:Hid (zj most w2 vN p d.off):=⟨by assumption,m2,v2,h2⟩;obtain⟨g0,g1,g2,g3,g4,g5⟩:=ju h2.1;clear h2 qxs;go_wp2;go_ret;exact⟨rfl,vN,HD2.out,((qB.refl own w).setCell _ _ (.inl H.out.2.2.2.1)).trans hb2 (fun i h=>.inl h),fun k hk=>by
   rcases hg2 k hk with h|h
   ·exact .inl h
   ·rw[size_set]at h;exact .inr h⟩
 ·by_cases e2:1<d.qi
  ·have hop:d.oper={ d with qi:=d.qi-1 }:=by unfold DD.oper;rw[if_neg e1,if_pos e2]
   rw[hop];have e0:0<d.qi:=by omega
   have e3:((d.qi-1:Int) == 0)=false:=by rw[beq_eq_false_iff_ne];omega
   clear e1;go_enter func179,ntmps179;go_wp2;go_ret;refine⟨(by rw[zK];rfl),own,⟨{ H0.out with qeR:=by simp only;omega,qeS:=by simp only;omega },m,v,?_⟩,(qB.refl _ _).setCell _ _ (.inl H.out.2.2.2.1),kQ.refl _ _⟩;refine H.out.turn (d':={ d with qi:=d.qi-1 }) rfl rfl ?_ (by simp[size_set]) (fun k _ hk=>zV _ _ _ _ _ hk);exact H.out.1.qo 5 _
  ·have hop:d.oper=d:=by unfold DD.oper;rw[if_neg e1,if_neg e2]
   rw[hop];have e0:d.qi=0:=by omega
   rw[e0]at c5;clear e1 e2;have E0:=QH e0;clear e0 b0 b1;go_enter func179,ntmps179;go_wp2;go_ret;exact⟨(by rw[zK];rfl),own,hd0.out,qB.refl _ _,kQ.refl _ _⟩
end
end Go.Proofs.YtdagdllomphidaaGreatDoor.dk
namespace Go.Proofs.YtdagdllomphidaaGreatDoor.dk
open _root_.Go.Proofs.Tryz Go Go.RowKit
def qnE (most n:Nat)(room:Int)(w:World)(e:Ending)(w':World):Prop :=
 ∃p own,e=.returned (.pointer (some ⟨p,0,none⟩))∧zj most w' own p (DD.new n room)∧Below w.heap.size w w'∧∀k,own k→w.heap.size≤k
def qjU (w:World)(e:Ending)(w':World):Prop:=e=.returned (.pointer none)∧w=w'
theorem gu (most n:Nat)(room:Int)(h0:1≤n)(h1:n≤1024)(r0:0≤room)(r1:room≤9223372036854775807)(w:World) :
    Calls prog 27 #[.int .i64 (n:Int),.int .i64 room] w (qnE most n room w):=by
 have hmm:=@run_makeMap prog;have i0:¬ (n:Int)<1:=by omega
 have i1:¬ 1024<(n:Int):=by omega
 have i2:¬ room<0:=by omega
 go_enter func27,ntmps27;go_wp2;go_ret;refine⟨w.heap.size+1,fun k=>k=w.heap.size∨k=w.heap.size+1,rfl,⟨⟨?_,?_,r0,r1,Int.le_refl _,by simp[DD.new],Nat.zero_le _,fun _ h=>by simp[DD.new]at h,fun v h=>?_⟩,w.heap.size,.slice none 0 0,?_⟩,((Below.refl _ w).alloc (Nat.le_refl _) _).alloc (by simp) _,fun k h=>by omega⟩
 ·simpa[DD.n,DD.new]using h0
 ·simpa[DD.n,DD.new]using h1
 ·simp[DD.new]at h
 ·refine⟨?_,?_,⟨rfl,.inl ⟨rfl,rfl⟩⟩,.inr rfl,.inl rfl,fun k h=>by simp[Value.ownBlock]at h,fun k h=>by simp;omega⟩
  ·have e:(DD.new n room).n=n:=by simp[DD.n,DD.new]
   rw[e];exact heap_alloc2_new w _ _
  ·exact(zA.made w n).of_block (Below.heap_alloc _ _ _ (by simp))
theorem qaI(n room:Int)(h:n<1∨1024<n∨room<0)(w:World) :
    Calls prog 27 #[.int .i64 n,.int .i64 room] w (qjU w):=by
 by_cases h1:n<1
 ·clear h;go_enter func27,ntmps27;go_wp2;go_ret;exact⟨rfl,rfl⟩
 ·by_cases h2:1024<n
  ·clear h;go_enter func27,ntmps27;go_wp2;go_ret;exact⟨rfl,rfl⟩
  ·have h3:room<0:=by omega
   clear h;go_enter func27,ntmps27;go_wp2;go_ret;exact⟨rfl,rfl⟩
def uW (r:Bt × Int)(w:World)(e:Ending)(w':World):Prop :=
 e=.returned (.tuple #[.string (str r.1),.int .i64 r.2])∧Below w.heap.size w w'
theorem aw (P:Bt)(b k:Nat)(t:TypeId)(w:World)(hk:P.length=k)(h:w.heap[b]?=some (.cells (Lib.byteCells P).toArray t (0,0))) :
    (convert 118 9 (.slice (some ⟨b,0,none⟩) k k)).run prog w=.ok (.string (str P)) w:=by
 subst hk;refine run_convert_bytes_back (P:=prog) w 118 9 5 ⟨b,0,none⟩ P.length P underlying118 underlying5 underlying9 ?_;intro j hj;rw[addr_add,Nat.zero_add,cell_of_row w b j _ _ _ h];simp[Lib.byteCells,hj]
section
variable {w:World} {p m:Nat} {v:Value} {d:DD} {own:Nat→Prop}
theorem qaJ(h:kP w own p m v d)(zK:d.on=false)(k:Int) :
    Calls prog 89 #[.pointer (some ⟨p,0,none⟩),.int .i64 k] w (uW ([],6) w):=by
 obtain⟨c0,c1,c2,c3,c4,c5⟩:=ju h.1;rw[zK]at c4;clear h c1 c2 c3 c0 c5;go_enter func89,ntmps89;go_wp2;go_ret2;exact⟨rfl,Below.refl _ _⟩
theorem qaK(h:kP w own p m v d)(zK:d.on=true)(k:Int)(hh:d.has k=false) :
    Calls prog 89 #[.pointer (some ⟨p,0,none⟩),.int .i64 k] w (uW ([],2) w):=by
 have hhas:=jE h k;rw[hh]at hhas;have HH:=QH hhas;obtain⟨c0,c1,c2,c3,c4,c5⟩:=ju h.1;rw[zK]at c4;clear h c1 c2 c3 c0 c5 hhas zK hh;go_enter func89,ntmps89;go_wp2_with (go_at_call 134;refine HH.out.mono ?_;rintro e w' ⟨rfl,rfl⟩);go_ret2;exact⟨rfl,Below.refl _ _⟩
theorem qeU{most:Nat}(h0:d.ok most)(h:kP w own p m v d)(zK:d.on=true)(k:Int)(hh:d.has k=true) :
    Calls prog 89 #[.pointer (some ⟨p,0,none⟩),.int .i64 k] w (uW ((look d.now k).getD zz,0) w):=by
 have hhas:=jE h k;rw[hh]at hhas;have HH:=QH hhas;have HM:=QH h.2.1;obtain⟨c0,c1,c2,c3,c4,c5⟩:=ju h.1;rw[zK]at c4;have hk0:0≤k∧k<(d.n:Int):=by simpa[DD.has]using hh
 have hn1:=h0.n1;have hlen:((look d.now k).getD zz).length=32:=by
  cases hx:look d.now k with
  | none=>exact qI
  | some u=>exact h0.pA hx
 generalize hq:(look d.now k).getD zz=q at *;have HQ:=QH hq;have HK:=QH hk0;have HN:=QH hn1;have qjV:=aw q w.heap.size 32 123 (w.alloc (.cells (Lib.byteCells q).toArray 123)) hlen (heap_alloc_new w _);have pF:(Lib.byteCells q).toArray.size=32:=by simp[Lib.byteCells,hlen]
 have HL:=QH pF;have HC:=QH qjV;clear h c1 c3 c0 c5 hhas zK hh hq hk0 hn1 hlen qjV pF h0;go_enter func89,ntmps89;go_wp2_with (first|(go_at_call 134;refine HH.out.mono ?_;rintro e w' ⟨rfl,rfl⟩)|(at_lookup;refine ql rfl (qgC _ _ rfl rfl HM.out k rfl (by have:=HK.out;omega) (by have:=HK.out;have:=HN.out;omega)) ?_;rw[HQ.out])|(refine wpList_skip rfl (zr w 123 _ _ (.tmp 6) (.tmp 26) rfl rfl rfl (by rw[HL.out];exact aC) (by rw[HL.out];rfl) (eP q)) ?_;have qjV:=HC.out));go_ret2;exact⟨rfl,(Below.refl _ _).alloc (Nat.le_refl _) _⟩
end
end Go.Proofs.YtdagdllomphidaaGreatDoor.dk
namespace Go.Proofs.YtdagdllomphidaaGreatDoor.dk
open _root_.Go.Proofs.Tryz Go Go.RowKit
def yh (w:World)(a:Nat)(acc:List Int):Prop :=
 ∃D:D1,w.ownsMap prog 3 unitElem a (Maps.size D) D∧(∀k:Int,Maps.has D (.int .i64 k)=acc.contains k)∧Maps.size D=acc.length
def xM (acc:List Int)(x:Int):List Int:=if acc.contains x then acc else acc++[x]
theorem yh.lt{w:World}{a:Nat}{acc:List Int}(h:yh w a acc):a<w.heap.size:=by
 obtain⟨D,h1,_⟩:=h;exact h1.lt
theorem yh.of_block{w w':World}{m:Nat}{s:List Int}(h:yh w m s)(hb:w'.heap[m]?=w.heap[m]?):yh w' m s:=by
 obtain⟨D,⟨es,clock,h1,h2⟩,h3⟩:=h;exact⟨D,⟨es,clock,hb.trans h1,h2⟩,h3⟩
theorem yh.made(w:World):yh (w.alloc (.map #[] 0)) w.heap.size [] :=
 ⟨.map [],World.ownsMap_made w prog 3 unitElem,fun _=>rfl,rfl⟩
theorem yh.len{w:World}{a:Nat}{acc:List Int}(h:yh w a acc)(ty:TypeId):(Builtin.len_ #[199] ty #[.map (some a)]).run prog w=.ok (.int .i64 (acc.length:Int)) w:=by
 obtain⟨D,hown,_,hc⟩:=h;rw[← hc];exact hown.len underlying199 ty
theorem yh.store{w:World}{a:Nat}{acc:List Int}(h:yh w a acc)(k:Int)(k0 : -9223372036854775808≤k)(k1:k≤9223372036854775807)(hl:acc.length<maxLen) :
    ∃w',(Instr.mapUpdate 199 (.map (some a)) (.int .i64 k) (.agg #[])).run prog w=.ok () w'∧yh w' a (xM acc k)∧w.mapTurned w' a:=by
 obtain⟨D,hown,hh,hc⟩:=h;have hkey:=Go.Maps.keyOf_int_mk (P:=prog) (k:=3) underlying3 (qnC k k0 k1);have hti:=hown.tidy keyed;obtain⟨w',hrun,r1,r2⟩:=hown.store keyed underlying199 (by omega) hkey unitElem_mk;refine⟨w',hrun,⟨_,eO r1,?_,?_⟩,r2⟩
 ·intro j;by_cases e:j=k
  ·subst e;rw[Maps.has_put_same hti.isMap (qdc _)];unfold xM;split
   ·exact(by assumption:acc.contains j=true).symm
   ·simp
  ·rw[Maps.has_put_other (lJ e),hh];unfold xM;split
   ·rfl
   ·simp[e]
 ·rw[Maps.size_put hti,hh,hc];unfold xM;split <;> simp
theorem bM {ρ:Operand→Value}{o:Oper}{w:World}{b:Nat}{s:List Int}(x:Operand)(ho:o.op=.call { callee:=.builtin .len,args:=#[x],argTypes:=#[199] })(hx:ρ x=.map (some b))(h:yh w b s) :
    (execOp ρ o).run prog w=.ok (.value (.int .i64 (s.length:Int))) w:=by
 simp[execOp,ho,resolve,invoke,builtin,hx,h.len o.type,Result.andThen]
theorem uX {ops:Array Oper}{rest:List Oper}{o:Oper}{a:Act}{w:World}{Q:Exit→Act→World→Prop}{b:Nat}{s:List Int}(hg:o.guard=none)(x y z:Operand)(ho:o.op=.mapUpdate 199 x y z)(hx:a.eval x=.map (some b))(h:yh w b s)
    (k:Int) (hy:a.eval y=.int .i64 k) (hz:a.eval z=.agg #[]) (k0 : -9223372036854775808≤k) (k1:k≤9223372036854775807) (hl:s.length<maxLen)
    (hK:∀w',yh w' b (xM s k)→w.mapTurned w' b→wpList prog ops Q rest (a.put o.dst undef) w'):wpList prog ops Q (o::rest) a w:=by
 refine wpList_plain hg fun K' hK'=>?_;obtain⟨w',hrun,r1,r2⟩:=h.store k k0 k1 hl;unfold Oper.wp;simp[execOp,ho,hx,hy,hz,hrun,Result.andThen];exact hK' _ _ (hK w' r1 r2)
structure Env(w:World)(p B1 B4 B3 a:Nat)(free:Int)(acc:List Int):Prop where
 b1:qg w B1 24 #[.pointer (some ⟨p,0,none⟩)]
 b4:qg w B4 199 #[.map (some a)]
 b3:qg w B3 3 #[.int .i64 free]
 qo:yh w a acc
def ask (d:DD)(acc:List Int)(x:Int):Bool × List Int :=
 if d.has x=false then(false,acc)
 else if (look d.now x).isSome then(true,acc)
 else(decide (((xM acc x).length:Int)≤d.room-(d.used:Int)),xM acc x)
def iR (r:Bool × List Int)(a:Nat)(w:World)(e:Ending)(w':World):Prop :=
 e=.returned (.bool r.1)∧yh w' a r.2∧qB (fun k=>k=a) w w'
section
variable {w:World} {p m:Nat} {v:Value} {d:DD} {own:Nat→Prop} {B1 B4 B3 a:Nat} {acc:List Int}
theorem qnF(h:kP w own p m v d)(he:Env w p B1 B4 B3 a (d.room-(d.used:Int)) acc)(x:Int)(hh:d.has x=false) :
    Calls prog 218 #[.int .i64 x,.pointer (some ⟨B1,0,none⟩),.pointer (some ⟨B4,0,none⟩),.pointer (some ⟨B3,0,none⟩)] w (iR (false,acc) a w):=by
 have hhas:=jE h x;rw[hh]at hhas;have HH:=QH hhas;have HE:=QH he;have g1:w.cell? ⟨B1,0,none⟩=some (.pointer (some ⟨p,0,none⟩)):=he.b1.cell 0;clear h he hhas hh;go_enter func218,ntmps218;go_wp2_with (go_at_call 134;refine HH.out.mono ?_;rintro e w' ⟨rfl,rfl⟩);go_ret;exact⟨rfl,HE.out.qo,qB.refl _ _⟩
theorem qnG{most:Nat}(h0:d.ok most)(h:kP w own p m v d)(he:Env w p B1 B4 B3 a (d.room-(d.used:Int)) acc)(x:Int)(hh:d.has x=true)(hs:(look d.now x).isSome=true) :
    Calls prog 218 #[.int .i64 x,.pointer (some ⟨B1,0,none⟩),.pointer (some ⟨B4,0,none⟩),.pointer (some ⟨B3,0,none⟩)] w (iR (true,acc) a w):=by
 have hhas:=jE h x;rw[hh]at hhas;have HH:=QH hhas;have HE:=QH he;have HM:=QH h.2.1;have g1:w.cell? ⟨B1,0,none⟩=some (.pointer (some ⟨p,0,none⟩)):=he.b1.cell 0;have c2:=(ju h.1).2.2.1;have hk0:0≤x∧x<(d.n:Int):=by simpa[DD.has]using hh
 have HK:=QH hk0;have HN:=QH h0.n1;have hlen:(Lib.byteCells ((look d.now x).getD zz)).toArray.size=32:=by
  simp only[List.size_toArray,Lib.byteCells_length];cases hx:look d.now x with
  | none=>exact qI
  | some u=>exact h0.pA hx
 have HL:=QH hlen;have HS:=QH hs;have hal:=fun c=>yh.of_block he.qo (Below.heap_alloc w (.cells c 123) a he.qo.lt);have HA:=QH hal;clear h he hhas hh hk0 hlen hs hal h0;go_enter func218,ntmps218;go_wp2_with (first|(go_at_call 134;refine HH.out.mono ?_;rintro e w' ⟨rfl,rfl⟩)|(at_lookup;refine ql rfl (vO _ _ rfl rfl HM.out x rfl (by have:=HK.out;omega) (by have:=HK.out;have:=HN.out;omega)) ?_;rw[HS.out])|(refine wpList_skip rfl (zr w 123 _ _ (.tmp 6) (.tmp 19) rfl rfl rfl (by rw[HL.out];exact aC) (by rw[HL.out];rfl) (eP _)) ?_));go_ret;exact⟨rfl,HA.out _,(qB.refl _ _).alloc _⟩
theorem qnH{most:Nat}(h0:d.ok most)(h:kP w own p m v d)(he:Env w p B1 B4 B3 a (d.room-(d.used:Int)) acc)(x:Int)(hh:d.has x=true)(hs:(look d.now x).isSome=false)(hl:acc.length<maxLen) :
    Calls prog 218 #[.int .i64 x,.pointer (some ⟨B1,0,none⟩),.pointer (some ⟨B4,0,none⟩),.pointer (some ⟨B3,0,none⟩)] w (iR (decide (((xM acc x).length:Int)≤d.room-(d.used:Int)),xM acc x) a w):=by
 have hhas:=jE h x;rw[hh]at hhas;have HH:=QH hhas;have HE:=QH he;have HM:=QH h.2.1;have g1:w.cell? ⟨B1,0,none⟩=some (.pointer (some ⟨p,0,none⟩)):=he.b1.cell 0;have g4:w.cell? ⟨B4,0,none⟩=some (.map (some a)):=he.b4.cell 0;have g3:w.cell? ⟨B3,0,none⟩=some (.int .i64 (d.room-(d.used:Int))):=he.b3.cell 0;have l4:=he.b4.lt;have l3:=he.b3.lt;have c2:=(ju h.1).2.2.1;have hk0:0≤x∧x<(d.n:Int):=by simpa[DD.has]using hh
 have HK:=QH hk0;have HN:=QH h0.n1;have hlen:(Lib.byteCells ((look d.now x).getD zz)).toArray.size=32:=by
  simp only[List.size_toArray,Lib.byteCells_length];cases hx:look d.now x with
  | none=>exact qI
  | some u=>exact h0.pA hx
 have HL:=QH hlen;have HS:=QH hs;have hal:=fun c=>yh.of_block he.qo (Below.heap_alloc w (.cells c 123) a he.qo.lt);have HA:=QH hal;have HLl:=QH hl;have n43:B4≠a:=by
  rintro rfl;obtain⟨D,⟨es,clock,q,_⟩,_⟩:=he.qo;have:=he.b4;unfold qg at this;rw[q]at this;cases this
 have n33:B3≠a:=by
  rintro rfl;obtain⟨D,⟨es,clock,q,_⟩,_⟩:=he.qo;have:=he.b3;unfold qg at this;rw[q]at this;cases this
 clear h he hhas hh hk0 hlen hs hal h0 hl;generalize qxt:d.room-(d.used:Int)=free at *;clear qxt;go_enter func218,ntmps218;go_wp2_with (first|(go_at_call 134;refine HH.out.mono ?_;rintro e w' ⟨rfl,rfl⟩)|(at_lookup;refine ql rfl (vO _ _ rfl rfl HM.out x rfl (by have:=HK.out;omega) (by have:=HK.out;have:=HN.out;omega)) ?_;rw[HS.out])|(refine wpList_skip rfl (zr w 123 _ _ (.tmp 6) (.tmp 19) rfl rfl rfl (by rw[HL.out];exact aC) (by rw[HL.out];rfl) (eP _)) ?_)|(at_mapUpdate;refine uX rfl _ _ _ rfl rfl (HA.out _) x rfl rfl (by have:=HK.out;omega) (by have:=HK.out;have:=HN.out;omega) HLl.out ?_;intro w2 hs2 lM;have uk:=QH hs2;have qG:=QH (((qB.refl (fun k=>k=a) w).alloc _).trans (yq lM) (fun _ h=>.inl h));have q4:=((yq lM).block B4 (by simp;omega) n43).trans (Below.heap_alloc w _ B4 l4);have q3:=((yq lM).block B3 (by simp;omega) n33).trans (Below.heap_alloc w _ B3 l3);have k4:=(World.cell?_of_block (a:=⟨B4,0,none⟩) q4).trans g4;have k3:=(World.cell?_of_block (a:=⟨B3,0,none⟩) q3).trans g3;clear hs2 lM q4 q3)|(at_len;refine ql rfl (bM _ rfl rfl uk.out) ?_));go_ret;exact⟨rfl,uk.out,qG.out⟩
end
end Go.Proofs.YtdagdllomphidaaGreatDoor.dk

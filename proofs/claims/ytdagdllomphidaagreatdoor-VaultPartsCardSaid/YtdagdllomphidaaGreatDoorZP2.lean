/- MgTake, MgLay, MgSame, MgChk, MtAbove, ImRefI, ImRefC, MtChk, MgCk, MgPut, WiRefP, MtNums, MtGdB, MtSize, SlotsP, MtEnc, MgEnc, MtProg, DkPure, DkMap, DkMem, DkOps, DkEasy, DkNew, DkFits, DkLose. -/
import Derived.Test.YtdagdllomphidaaGreatDoorZP1
import Derived.Laws.EntriesVeiled
import Derived.Lib.QuietBelow
import Derived.Laws.AppendOwnNone
import Derived.Lib.BufferWrite
set_option linter.unusedVariables false
set_option linter.unusedSimpArgs false
set_option maxHeartbeats 30000000
set_option maxRecDepth 100000
namespace Go.Proofs.YtdagdllomphidaaGreatDoor.mt.pg
open _root_.Go.Proofs.Tryz Go Go.RowKit ib wi im mt
def mZ (v0 v1:Value):Array Value:=#[v0,v1,.int .u64 0,.int .u64 0,.int .u64 0,.int .u64 0,.int .i64 0,.int .i64 0,.slice none 0 0]
structure TK(w W:World)(gR gm kb rb pb c b:Nat)(s:St)(v0 v1:Value)(l:List Int)(xs:List eA):Prop where
 rd:Rd w c s W
 env:iR W kb rb pb c b
 res:qf W gR 93 (mZ (.slice none 0 0) (.slice none 0 0))
 m:qf W gm 93 (mZ v0 v1)
 live:zC W w.heap.size v0 l
 row:dv W w.heap.size v1 xs
 rn:w.heap.size≤gR
 gn:gR<gm
section
variable {w W W':World} {gR gm kb rb pb c b:Nat} {s s':St} {v0 v1:Value} {l:List Int} {xs:List eA}
theorem TK.next(h:TK w W gR gm kb rb pb c b s v0 v1 l xs)(hr:Rd W c s' W'):TK w W' gR gm kb rb pb c b s' v0 v1 l xs :=
 ⟨h.rd.trans hr,h.env.rd h.rd.ps.blk hr,hr.blk h.res h.rd.ps.blk (by decide),hr.blk h.m h.rd.ps.blk (by decide),bH h.live (hr.kp h.rd.ps) (by decide),h.row.kp (hr.kp h.rd.ps) (by decide) (by decide),h.rn,h.gn⟩
theorem iR.kp{kb rb pb c b:Nat}(h:iR W kb rb pb c b)(hk:Kp 93 W W'):iR W' kb rb pb c b:=⟨⟨hk _ _ _ (by decide) h.e.k,hk _ _ _ (by decide) h.e.r⟩,hk _ _ _ (by decide) h.p⟩
theorem TK.q5j{l':List Int}(h:TK w W gR gm kb rb pb c b s v0 v1 l xs)(v:Value)(hv:zC W w.heap.size v l'):TK w (W.setCell ⟨gm,0,none⟩ v) gR gm kb rb pb c b s v v1 l' xs:=by
 have hk:=Kp.dM 0 v h.m;have:=h.rn;have:=h.gn;exact⟨h.rd.set h.m (by omega) (by decide) (by decide) 0 v,h.env.kp hk,h.res.of_block (qC _ _ _ _ _ (by omega)),h.m.qo 0 v,bH hv hk (by decide),h.row.kp hk (by decide) (by decide),h.rn,h.gn⟩
theorem TK.q5k{xs':List eA}(h:TK w W gR gm kb rb pb c b s v0 v1 l xs)(v:Value)(hv:dv W w.heap.size v xs'):TK w (W.setCell ⟨gm,1,none⟩ v) gR gm kb rb pb c b s v0 v l xs':=by
 have hk:=Kp.dM 1 v h.m;have:=h.rn;have:=h.gn;exact⟨h.rd.set h.m (by omega) (by decide) (by decide) 1 v,h.env.kp hk,h.res.of_block (qC _ _ _ _ _ (by omega)),h.m.qo 1 v,bH h.live hk (by decide),hv.kp hk (by decide) (by decide),h.rn,h.gn⟩
end
theorem qqS{w W:World}{b c n g:Nat}{s:St}{xs:List eA}{B:Nat}(h:Sn b c n g s w n xs W)(hg:B≤g)(hB:B≤w.heap.size)(hn:n≤1000):dv W B (.slice (some ⟨g,0,none⟩) n n) xs:=by
 have hr:=h.row;rw[Nat.sub_self,List.replicate_zero,List.append_nil]at hr;have hl:=h.len;refine⟨⟨by rw[yq],.inr ⟨g,n,(za xs).toArray,by rw[hl],hg,hr,by omega,by unfold maxLen;omega,by rw[List.size_toArray,yq,hl],?_⟩⟩,fun x hx=>qmr (h.ql x hx) hB⟩;rw[List.take_of_length_le (by rw[yq];omega)]
theorem qjg{a W:World}{c gm:Nat}{s:St}{cs:Array Value}{v:Value}{t:Tk}(h:Rd a c s W)(hm:qf W gm 93 cs)(hn:a.heap.size≤gm):Rd a c s (yf W gm v t):=by
 have go:∀(k:Nat) (u:Value) {W':World},(Rd a c s W'∧∃cs,qf W' gm 93 cs)→(Rd a c s (W'.setCell ⟨gm,k,none⟩ u)∧∃cs,qf (W'.setCell ⟨gm,k,none⟩ u) gm 93 cs):=fun k u W' ⟨h1,cs,h2⟩=>⟨h1.set h2 hn (by decide) (by decide) k u,_,h2.qo k u⟩;exact(go 8 v (go 7 _ (go 6 _ (go 5 _ (go 4 _ (go 3 _ (go 2 _ ⟨h,cs,hm⟩))))))).1
theorem qjh{W:World}{g:Nat}{v:Value}{t:Tk}{cs:Array Value}(h:qf W g 93 cs):Kp 93 W (yf W g v t):=by
 have go:∀(k:Nat) (u:Value) {W':World},Kp 93 W W'∧(∃cs,qf W' g 93 cs)→Kp 93 W (W'.setCell ⟨g,k,none⟩ u)∧(∃cs,qf (W'.setCell ⟨g,k,none⟩ u) g 93 cs):=fun k u W' ⟨h1,cs,h2⟩ =>
  ⟨h1.trans (Kp.dM k u h2),_,h2.qo k u⟩
 exact(go 8 v (go 7 _ (go 6 _ (go 5 _ (go 4 _ (go 3 _ (go 2 _ ⟨Kp.refl _ _,_,h⟩))))))).1
theorem cj {W:World}{g:Nat}{v0 v1 v:Value}{t:Tk}(h:qf W g 93 (mZ v0 v1)):qf (yf W g v t) g 93 (mC v0 v1 v t):=by
 have h9:=((((((h.qo 2 (.int .u64 (t.base.1:Int))).qo 3 (.int .u64 (t.base.2:Int))).qo 4 (.int .u64 (t.target.1:Int))).qo 5 (.int .u64 (t.target.2:Int))).qo 6 (.int .i64 t.next)).qo 7 (.int .i64 t.all)).qo 8 v;simp only[mZ,List.setIfInBounds_toArray,List.set_cons_succ,List.set_cons_zero]at h9;exact h9
theorem qfD{W:World}{g j:Nat}{v:Value}{t:Tk}(hj:j≠g):(yf W g v t).heap[j]?=W.heap[j]? :=by
 unfold yf;rw[qC _ _ _ _ _ hj,qC _ _ _ _ _ hj,qC _ _ _ _ _ hj,qC _ _ _ _ _ hj,qC _ _ _ _ _ hj,qC _ _ _ _ _ hj,qC _ _ _ _ _ hj]
structure Fin(w W:World)(gR gm c:Nat)(v0 v1 v2:Value)(m:Mt):Prop where
 but:qy (Tc c) w W
 res:qf W gR 93 (mZ (.slice none 0 0) (.slice none 0 0))
 mm:qf W gm 93 (mC v0 v1 v2 m.tok)
 at_:∃xs,zC W w.heap.size v0 m.live∧dv W w.heap.size v1 xs∧zC W w.heap.size v2 m.tok.ql∧xs.map (·.1)=m.qa
 ok:qcZ m.live m.qa∧mr m.tok
 rn:w.heap.size≤gR
structure Own(w:World)(B:Nat)(v0 v1 v2:Value)(m:Mt):Prop where
 at_:∃xs,zC w B v0 m.live∧dv w B v1 xs∧zC w B v2 m.tok.ql∧xs.map (·.1)=m.qa
 ok:qcZ m.live m.qa∧mr m.tok
theorem Own.kp{w w':World}{B:Nat}{v0 v1 v2:Value}{m:Mt}{r:TypeId}(h:Own w B v0 v1 v2 m)(hk:Kp r w w')(h1:145≠r)(h2:3≠r):Own w' B v0 v1 v2 m:=by
 obtain⟨xs,a,b,c,d⟩:=h.at_;exact⟨⟨xs,bH a hk h2,b.kp hk h1 h2,bH c hk h2,d⟩,h.ok⟩
theorem Own.mt{w:World}{B:Nat}{v0 v1 v2:Value}{m:Mt}(h:Own w B v0 v1 v2 m):qaZ w (.agg (mC v0 v1 v2 m.tok)) m:=by
 obtain⟨xs,a,b,c,d⟩:=h.at_;have:=qqR a b c (by rw[d];exact h.ok.1) h.ok.2;rw[d]at this;exact this
def qtr (c:Nat)(s:St)(w:World)(e:Ending)(w':World):Prop:=∃v0 v1 v2,e=.returned (.agg (mC v0 v1 v2 (mP s).tok))∧Own w' w.heap.size v0 v1 v2 (mP s)∧qy (Tc c) w w'
theorem Fin.done{w W:World}{gR gm c:Nat}{v0 v1 v2:Value}{m:Mt}(h:Fin w W gR gm c v0 v1 v2 m):qf (xM W gR v0 v1 v2 m.tok) gR 93 (mC v0 v1 v2 m.tok)∧Own (xM W gR v0 v1 v2 m.tok) w.heap.size v0 v1 v2 m∧qy (Tc c) w (xM W gR v0 v1 v2 m.tok):=by
 have hk:=qda (v0:=v0) (v1:=v1) (v2:=v2) (t:=m.tok) h.res;obtain⟨xs,h1,h2,h3,h4⟩:=h.at_;have hr:qf W gR 93 (mC nlS nlS nlS zD):=h.res;have ha:Own (xM W gR v0 v1 v2 m.tok) w.heap.size v0 v1 v2 m:=Own.kp ⟨h.at_,h.ok⟩ hk (by decide) (by decide);have hb:qy (Tc c) w (xM W gR v0 v1 v2 m.tok):=by
  have go:∀(k:Nat) (u:Value) {W':World},qy (Tc c) w W'→qy (Tc c) w (W'.setCell ⟨gR,k,none⟩ u):=fun k u W' h1=>h1.setCell _ _ (.inr h.rn);exact go 8 _ (go 7 _ (go 6 _ (go 5 _ (go 4 _ (go 3 _ (go 2 _ (go 1 _ (go 0 _ h.but))))))))
 exact⟨qac hr,ha,hb⟩
theorem qhI{W:World}{g:Nat}{v0 v1 v2:Value}{t:Tk}(h:qf W g 93 (mC v0 v1 v2 t)):(loadVar 93 ⟨g,0,none⟩).run prog W=.ok (.agg (mC v0 v1 v2 t)) W :=
 run_loadVar_row W g 93 93 _ (0,0) _ h underlying93 rfl (by kernel_rfl)
theorem qmK{W:World}{g:Nat}{v0 v1 v2:Value}{t:Tk}(h:qf W g 93 (mC v0 v1 v2 t))(tm:Array Value)(hp:tm.getD 2 undef=.pointer (some ⟨g,0,none⟩)) :
    (results Tryz.f91 tm).run prog W=.ok (.agg (mC v0 v1 v2 t)) W:=by
 have hl:=qhI h;generalize mC v0 v1 v2 t=X at *;exact zx results91 tm _ _ ⟨g,0,none⟩ _ hp hl
theorem qdb{w WE:World}{gR c:Nat}{s:St}{v0 v1 v2:Value}{m:Mt}(a:Act)(ha:a.defers=[])(hp:a.tmps.getD 2 undef=.pointer (some ⟨gR,0,none⟩))(hm:mP s=m)
    (h:qf WE gR 93 (mC v0 v1 v2 m.tok)∧Own WE w.heap.size v0 v1 v2 m∧qy (Tc c) w WE):bodyPost prog Tryz.f91 (qtr c s w) .ret a WE :=
 bodyPost_ret (qmK h.1 a.tmps hp) ha ⟨v0,v1,v2,by rw[hm],by rw[hm];exact h.2.1,h.2.2⟩
theorem jd {w:World}{c:Nat}{s:St}(h:PS w c s):Calls prog 91 #[ptr c] w (qtr c s w):=by
 have HP0:=QH h;have hb1:=(Below.refl w.heap.size w).alloc (Nat.le_refl _) (.cells #[ptr c] 161);have hr1:Rd w c s (w.alloc (.cells #[ptr c] 161)):=⟨qy.of_below hb1,h.below hb1⟩;have ha1:=qf.new w 161 #[ptr c];obtain⟨W1,hW1⟩:=QE (w.alloc (.cells #[ptr c] 161));rw[hW1]at hr1 ha1 hb1;have hb2:=(Below.refl W1.heap.size W1).alloc (Nat.le_refl _) (.cells (mZ (.slice none 0 0) (.slice none 0 0)) 93);have hr2:=hr1.new hb2;have ha2:=qf.new W1 93 (mZ (.slice none 0 0) (.slice none 0 0));obtain⟨W2,hW2⟩:=QE (W1.alloc (.cells (mZ (.slice none 0 0) (.slice none 0 0)) 93));rw[hW2]at hr2 ha2 hb2;have jI:=QH hr2;have qB:=QH (ha1.below hb2);have aP:=QH ha2;have HRN:Hid (w.heap.size≤W1.heap.size):=hb1.size;obtain⟨gR,hgR⟩:=QE W1.heap.size;rw[hgR]at aP HRN;obtain⟨rb,hrb⟩:=QE w.heap.size;have HRB:=QH hrb;have hB2:=qB.out;rw[hrb]at hB2;have HX2:=QH hB2;have r0:=hB2.cell 0;simp only[QA,QB,QC]at r0;have hlr:=hB2.lt;clear h hb1 hr1 ha1 hb2 hr2 ha2 hB2 qB;unfold mZ at hW2;go_enter func91,ntmps91;go_upto_region 1 with fail;try rw[hrb]
 try rw[hW1]
 try rw[hW2]
 try rw[hgR]
 clear hW1 hW2 hgR hrb;go_wp2_with fail;refine(dO jI.out.ps 8 8 rfl (by omega)).mono ?_;rintro e W3 ⟨rfl,hq⟩;have qvo:=jI.out.trans hq;have hA3:=hq.blk aP.out jI.out.ps.blk (by decide);have hX3:=hq.blk HX2.out jI.out.ps.blk (by decide);clear hq aP HX2 r0 hlr jI;have hbb:=iM 8 s;obtain⟨b,hbE⟩:=QE ((kT 8 s).1);rw[hbE]at hbb ⊢;have gX:=QH hbE;obtain⟨s1,hs1⟩:=QE ((kT 8 s).2);rw[hs1]at qvo;have aV:=QH hs1;have HBB:=QH hbb;clear hs1 hbE hbb;have hb4:=(Below.refl W3.heap.size W3).alloc (Nat.le_refl _) (.cells #[.int .i64 (b:Int)] 3);have hK4:=qf.new W3 3 #[.int .i64 (b:Int)];obtain⟨W4,sW⟩:=QE (W3.alloc (.cells #[.int .i64 (b:Int)] 3));rw[sW]at hb4 hK4;obtain⟨kb,hkb⟩:=QE W3.heap.size;rw[hkb]at hK4;have qzd:=QH (qvo.new hb4);have iT:=QH (hA3.below hb4);have HX4:=QH (hX3.below hb4);have mv:=QH hK4;clear qvo hA3 hX3 hb4 hK4;go_upto_region 2 with fail;try rw[hkb]
 try rw[sW]
 clear sW hkb;have hb5:=(Below.refl W4.heap.size W4).alloc (Nat.le_refl _) (.cells #[plF kb rb] 209);have hP5:=qf.new W4 209 #[plF kb rb];obtain⟨W5,iC⟩:=QE (W4.alloc (.cells #[plF kb rb] 209));rw[iC]at hb5 hP5;obtain⟨pb,hpb⟩:=QE W4.heap.size;rw[hpb]at hP5;have qze:=QH (qzd.out.new hb5);have HA5:=QH (iT.out.below hb5);have HE5:Hid (iR W5 kb rb pb c b):=⟨⟨mv.out.below hb5,HX4.out.below hb5⟩,hP5⟩;clear qzd iT HX4 mv hb5 hP5;go_upto_region 3 with fail;try rw[hpb]
 try rw[iC]
 clear iC hpb;have kU:=(Below.refl W5.heap.size W5).alloc (Nat.le_refl _) (.cells (mZ (.slice none 0 0) (.slice none 0 0)) 93);have hM6:=qf.new W5 93 (mZ (.slice none 0 0) (.slice none 0 0));obtain⟨W6,hW6⟩:=QE (W5.alloc (.cells (mZ (.slice none 0 0) (.slice none 0 0)) 93));rw[hW6]at kU hM6;have HGN:Hid (gR<W5.heap.size):=HA5.out.lt;obtain⟨gm,hgm⟩:=QE W5.heap.size;rw[hgm]at hM6 HGN;have bC:Hid (TK w W6 gR gm kb rb pb c b s1 (.slice none 0 0) (.slice none 0 0) [] []):=⟨qze.out.new kU,HE5.out.below kU,HA5.out.below kU,hM6,qms _ _,dv.nil _ _,HRN.out,HGN.out⟩;clear qze HA5 HE5 kU hM6;unfold mZ at hW6;go_upto_region 4 with fail;try rw[hgm]
 try rw[hW6]
 clear hW6 hgm;have p0:=bC.out.env.p.cell 0;simp only[QA,QB,QC]at p0;have hlp:=bC.out.env.p.lt;go_wp2_with fail;refine(uF (by have:=HBB.out;omega) bC.out.rd.ps bC.out.env.e.k bC.out.env.e.r).mono ?_;rintro e W7 ⟨g0,rfl,hg0,qzf,hq⟩;have nI:=QH (bC.out.next hq);have hv:=qmC (B:=w.heap.size) qzf (by have:=bC.out.rd.but.size;omega) (by rw[ue];have:=HBB.out;omega);rw[ue]at hv;have ni:=QH hv;clear hq hv hg0 qzf p0 hlp bC;have HLV:Hid (dp b s1=mj s):=by unfold Hid mj;rw[gX.out,aV.out]
 obtain⟨ls,hls⟩:=QE (dp b s1);rw[hls]at nI ni HLV;clear hls;obtain⟨l,hl⟩:=QE ls.1;rw[hl]at ni;have HLE:=QH hl;clear hl;have q0:=nI.out.m.cell 0;simp only[mZ,QA,QB,QC]at q0;have f0:=nI.out.m.frozen 0;have hlm:=nI.out.m.lt;have HT8:=QH (nI.out.q5j (.slice (some ⟨g0,0,none⟩) b b) ni.out);obtain⟨W8,hW8⟩:=QE (W7.setCell ⟨gm,0,none⟩ (.slice (some ⟨g0,0,none⟩) b b));rw[hW8]at HT8;clear nI ni;go_upto_region 5 with fail;try rw[hW8]
 clear hW8 q0 f0 hlm;have r0:=HT8.out.env.e.r.cell 0;simp only[QA,QB,QC]at r0;have hlr:=HT8.out.env.e.r.lt;go_wp2_with fail;refine(dO HT8.out.rd.ps 20 20 rfl (by omega)).mono ?_;rintro e W9 ⟨rfl,hq⟩;have iP:=QH (HT8.out.next hq);clear hq r0 hlr HT8;have hnb:=iM 20 ls.2;obtain⟨n,hnE⟩:=QE ((kT 20 ls.2).1);rw[hnE]at hnb ⊢;have HNE:=QH hnE;have HNB:=QH hnb;clear hnE hnb;go_wp2_with fail;refine(qqQ n (by have:=HNB.out;omega) (by have:=HBB.out;omega) iP.out.rd.ps iP.out.env).mono ?_;rintro e W10 ⟨gs,xs,rfl,hgs,hsn⟩;have sV:=QH (iP.out.next hsn.rd);have HW9:Hid (w.heap.size≤W9.heap.size):=iP.out.rd.but.size;have HV1:=QH (qqS (B:=w.heap.size) hsn (by have:=HW9.out;omega) HW9.out (by have:=HNB.out;omega));have HSE:Hid (xs.map (·.1)=(uz b n (kT 20 ls.2).2).1):=hsn.is;have HXL:Hid (xs.length=n):=hsn.len;clear hsn hgs iP;have HAL:Hid (uz b n (kT 20 ls.2).2=qfj s):=by unfold Hid qfj;rw[gX.out,← HLV.out,HNE.out]
 obtain⟨ss,hss⟩:=QE (uz b n (kT 20 ls.2).2);rw[hss]at sV HSE HAL;have HSO:Hid (∀x∈ss.1,yu x.ql∧x.ql.length=b∧zZ x.g):=by rw[← hss];exact qaU _ _ _
 clear hss;have q1:=sV.out.m.cell 1;simp only[mZ,QA,QB,QC]at q1;have f1:=sV.out.m.frozen 1;have hlm:=sV.out.m.lt;have iQ:=QH (sV.out.q5k (.slice (some ⟨gs,0,none⟩) n n) HV1.out);obtain⟨W11,qvs⟩:=QE (W10.setCell ⟨gm,1,none⟩ (.slice (some ⟨gs,0,none⟩) n n));rw[qvs]at iQ;clear sV HV1;go_upto_region 6 with fail;try rw[qvs]
 clear qvs q1 f1 hlm;have r0:=iQ.out.env.e.r.cell 0;simp only[QA,QB,QC]at r0;have hlr:=iQ.out.env.e.r.lt;go_wp2_with fail;refine(dN iQ.out.rd.ps).mono ?_;rintro e W12 ⟨rfl,hq⟩;have vQ:=QH (iQ.out.next hq);clear hq r0 hlr iQ;have HOK:Hid (qcZ l ss.1):=by
  have hl1:l.length=b∧yu l:=by
   rw[← HLE.out,HLV.out];unfold mj;rw[gX.out];exact⟨ue _ _,qaT _ _⟩
  refine⟨hl1.2,fun x hx=>⟨(HSO.out x hx).1,(HSO.out x hx).2.2,by have:=(HSO.out x hx).2.1;have:=HBB.out;omega⟩,by have:=HBB.out;omega,?_⟩;rw[← HSE.out,List.length_map,HXL.out];have:=HNB.out;omega
 have HMP:Hid (mP s=⟨l,ss.1,if (yt ss.2).1=1 then(sQ b (yt ss.2).2).1 else zD⟩):=by unfold Hid mP;rw[← HLV.out,← HAL.out,gX.out,HLE.out]
 obtain⟨fl,dr⟩:=QE ((yt ss.2).1);rw[dr]at HMP ⊢;obtain⟨s3,hs3⟩:=QE ((yt ss.2).2);rw[hs3]at HMP vQ;clear dr hs3 HSO HAL HLV;by_cases h1:fl=1
 ·have hq:((fl:Int) == 1)=true:=by rw[h1];rfl
  have HM2:Hid (mP s=⟨l,ss.1,(sQ b s3).1⟩):=by unfold Hid;rw[HMP.out,if_pos h1]
  clear h1 HMP;have r0:=vQ.out.env.e.r.cell 0;simp only[QA,QB,QC]at r0;have hlr:=vQ.out.env.e.r.lt;have p0:=vQ.out.env.p.cell 0;simp only[QA,QB,QC]at p0;have hlp:=vQ.out.env.p.lt;go_wp2_with fail;refine(iO (by have:=HBB.out;omega) vQ.out.rd.ps vQ.out.env.e).mono ?_;rintro e W13 ⟨gt,rfl,hgt,qzg,hq⟩;have uf:=QH (vQ.out.next hq);have nJ:Hid ((sQ b s3).1.ql.length=b∧yu (sQ b s3).1.ql∧(sQ b s3).1.next≤9∧0≤(sQ b s3).1.next∧(sQ b s3).1.all≤9∧0≤(sQ b s3).1.all):=by
   have e1:=iM 8 (vN (vN s3).2).2;have e2:=iM 8 (kT 8 (vN (vN s3).2).2).2;exact⟨ue _ _,qaT _ _,by show((kT 8 (vN (vN s3).2).2).1:Int)≤9;omega,by show(0:Int)≤((kT 8 (vN (vN s3).2).2).1:Int);omega,by show((kT 8 (kT 8 (vN (vN s3).2).2).2).1:Int)≤9;omega,by show(0:Int)≤((kT 8 (kT 8 (vN (vN s3).2).2).2).1:Int);omega⟩
  have oF:=QH (qlZ b s3);have hv:=qmC (B:=w.heap.size) qzg (by have:=vQ.out.rd.but.size;omega) (by rw[nJ.out.1];have:=HBB.out;omega);rw[nJ.out.1]at hv;obtain⟨t,ht⟩:=QE ((sQ b s3).1);rw[ht]at hv nJ oF HM2;unfold dy;rw[ht,nJ.out.1];have HV2:=QH hv;clear hq hv hgt qzg r0 hlr p0 hlp vQ ht;have gp:=uf.out.m;have m2:=gp.cell 2;have m3:=gp.cell 3;have m4:=gp.cell 4;have m5:=gp.cell 5;have m6:=gp.cell 6;have m7:=gp.cell 7;have m8:=gp.cell 8;simp only[mZ,QA,QB,QC]at m2 m3 m4 m5 m6 m7 m8;have f2:=gp.frozen 2;have f3:=gp.frozen 3;have f4:=gp.frozen 4;have f5:=gp.frozen 5;have f6:=gp.frozen 6;have f7:=gp.frozen 7;have f8:=gp.frozen 8;have hlm:=gp.lt;have hk:=qjh (v:=.slice (some ⟨gt,0,none⟩) b b) (t:=t) gp;have HF:Hid (Fin w (yf W13 gm (.slice (some ⟨gt,0,none⟩) b b) t) gR gm c (.slice (some ⟨g0,0,none⟩) b b) (.slice (some ⟨gs,0,none⟩) n n) (.slice (some ⟨gt,0,none⟩) b b) ⟨l,ss.1,t⟩) :=
   ⟨(qjg uf.out.rd gp (by have:=uf.out.rn;have:=uf.out.gn;omega)).but,uf.out.res.of_block (qfD (by have:=uf.out.gn;omega)),cj gp,
    ⟨xs,bH uf.out.live hk (by decide),uf.out.row.kp hk (by decide) (by decide),bH HV2.out hk (by decide),HSE.out⟩,
    ⟨HOK.out,⟨nJ.out.2.1,by show t.ql.length≤100;have:=nJ.out.1;have:=HBB.out;omega,oF.out.1,oF.out.2,by show qD t.next;unfold qD;have:=nJ.out;omega,by show qD t.all;unfold qD;have:=nJ.out;omega⟩⟩,uf.out.rn⟩
  obtain⟨W14,nj⟩:=QE (yf W13 gm (.slice (some ⟨gt,0,none⟩) b b) t);rw[nj]at HF;unfold yf at nj;clear uf HV2 hk gp;go_upto_region 8 with fail;try rw[nj]
  clear nj m2 m3 m4 m5 m6 m7 m8 f2 f3 f4 f5 f6 f7 f8 hlm;have m0:=HF.out.mm.cell 0;have m1:=HF.out.mm.cell 1;have m2:=HF.out.mm.cell 2;have m3:=HF.out.mm.cell 3;have m4:=HF.out.mm.cell 4;have m5:=HF.out.mm.cell 5;have m6:=HF.out.mm.cell 6;have m7:=HF.out.mm.cell 7;have m8:=HF.out.mm.cell 8;have a0:=HF.out.res.cell 0;have a1:=HF.out.res.cell 1;have a2:=HF.out.res.cell 2;have a3:=HF.out.res.cell 3;have a4:=HF.out.res.cell 4;have a5:=HF.out.res.cell 5;have a6:=HF.out.res.cell 6;have a7:=HF.out.res.cell 7;have a8:=HF.out.res.cell 8;simp only[mC,mZ,QA,QB,QC]at m0 m1 m2 m3 m4 m5 m6 m7 m8 a0 a1 a2 a3 a4 a5 a6 a7 a8;have f0:=HF.out.res.frozen 0;have f1:=HF.out.res.frozen 1;have f2:=HF.out.res.frozen 2;have f3:=HF.out.res.frozen 3;have f4:=HF.out.res.frozen 4;have f5:=HF.out.res.frozen 5;have f6:=HF.out.res.frozen 6;have f7:=HF.out.res.frozen 7;have f8:=HF.out.res.frozen 8;have hlm:=HF.out.mm.lt;have iA:=HF.out.res.lt;have HD:=QH HF.out.done;go_wp2_with fail;show bodyPost _ _ _ _ _ (xM W14 gR (.slice (some ⟨g0,0,none⟩) b b) (.slice (some ⟨gs,0,none⟩) n n) (.slice (some ⟨gt,0,none⟩) b b) t);obtain⟨WE,hWE⟩:=QE (xM W14 gR (.slice (some ⟨g0,0,none⟩) b b) (.slice (some ⟨gs,0,none⟩) n n) (.slice (some ⟨gt,0,none⟩) b b) t);have HD2:=HD.out;try dsimp only at HD2
  rw[hWE]at HD2 ⊢;have HD3:=QH HD2;clear HD2 hWE HD m0 m1 m2 m3 m4 m5 m6 m7 m8 a0 a1 a2 a3 a4 a5 a6 a7 a8 f0 f1 f2 f3 f4 f5 f6 f7 f8;exact qdb (gR:=gR) (v0:=.slice (some ⟨g0,0,none⟩) b b) (v1:=.slice (some ⟨gs,0,none⟩) n n) (v2:=(.slice (some ⟨gt,0,none⟩) b b)) (m:=⟨l,ss.1,t⟩) _ rfl (by simp) HM2.out HD3.out
 ·have hq:((fl:Int) == 1)=false:=by simp;omega
  have HM2:Hid (mP s=⟨l,ss.1,zD⟩):=by unfold Hid;rw[HMP.out,if_neg h1]
  clear h1 HMP;have HF:Hid (Fin w W12 gR gm c (.slice (some ⟨g0,0,none⟩) b b) (.slice (some ⟨gs,0,none⟩) n n) (.slice none 0 0) ⟨l,ss.1,zD⟩) :=
   ⟨vQ.out.rd.but,vQ.out.res,vQ.out.m,⟨xs,vQ.out.live,vQ.out.row,qms _ _,HSE.out⟩,⟨HOK.out,qvm⟩,vQ.out.rn⟩
  go_upto_region 8 with fail;have m0:=HF.out.mm.cell 0;have m1:=HF.out.mm.cell 1;have m2:=HF.out.mm.cell 2;have m3:=HF.out.mm.cell 3;have m4:=HF.out.mm.cell 4;have m5:=HF.out.mm.cell 5;have m6:=HF.out.mm.cell 6;have m7:=HF.out.mm.cell 7;have m8:=HF.out.mm.cell 8;have a0:=HF.out.res.cell 0;have a1:=HF.out.res.cell 1;have a2:=HF.out.res.cell 2;have a3:=HF.out.res.cell 3;have a4:=HF.out.res.cell 4;have a5:=HF.out.res.cell 5;have a6:=HF.out.res.cell 6;have a7:=HF.out.res.cell 7;have a8:=HF.out.res.cell 8;simp only[mC,mZ,QA,QB,QC]at m0 m1 m2 m3 m4 m5 m6 m7 m8 a0 a1 a2 a3 a4 a5 a6 a7 a8;have f0:=HF.out.res.frozen 0;have f1:=HF.out.res.frozen 1;have f2:=HF.out.res.frozen 2;have f3:=HF.out.res.frozen 3;have f4:=HF.out.res.frozen 4;have f5:=HF.out.res.frozen 5;have f6:=HF.out.res.frozen 6;have f7:=HF.out.res.frozen 7;have f8:=HF.out.res.frozen 8;have hlm:=HF.out.mm.lt;have iA:=HF.out.res.lt;have HD:=QH HF.out.done;go_wp2_with fail;show bodyPost _ _ _ _ _ (xM W12 gR (.slice (some ⟨g0,0,none⟩) b b) (.slice (some ⟨gs,0,none⟩) n n) (.slice none 0 0) zD);obtain⟨WE,hWE⟩:=QE (xM W12 gR (.slice (some ⟨g0,0,none⟩) b b) (.slice (some ⟨gs,0,none⟩) n n) (.slice none 0 0) zD);have HD2:=HD.out;try dsimp only at HD2
  rw[hWE]at HD2 ⊢;have HD3:=QH HD2;clear HD2 hWE HD m0 m1 m2 m3 m4 m5 m6 m7 m8 a0 a1 a2 a3 a4 a5 a6 a7 a8 f0 f1 f2 f3 f4 f5 f6 f7 f8;exact qdb (gR:=gR) (v0:=.slice (some ⟨g0,0,none⟩) b b) (v1:=.slice (some ⟨gs,0,none⟩) n n) (v2:=(.slice none 0 0)) (m:=⟨l,ss.1,zD⟩) _ rfl (by simp) HM2.out HD3.out
end Go.Proofs.YtdagdllomphidaaGreatDoor.mt.pg
namespace Go.Proofs.YtdagdllomphidaaGreatDoor.mt.pg
open _root_.Go.Proofs.Tryz Go Go.RowKit ib wi mt
def qqT (r:List UInt8)(w:World)(e:Ending)(w':World):Prop:=e=.returned (.string (str r))∧Below w.heap.size w w'
def qzh (L:List UInt8)(l:List Int)(w:World)(v x i:Value)(wr:World):Prop :=
 ∃k:Nat,k≤l.length∧i=.int .i64 (k:Int)∧v=.string (str (L++zn (l.take k)))∧Below w.heap.size w wr
theorem qfE(l:List Int)(k:Nat)(h:k<l.length):zn (l.take (k+1))=zn (l.take k)++yj l[k]:=by
 unfold zn;rw[List.take_succ_eq_append_getElem h,List.flatMap_append];simp
theorem qx (n:Nat):(zw n).length≤9:=by
 unfold zw;have:=jK n;simp only[List.length_cons];omega
theorem jx:∀l:List Int,(zn l).length≤9*l.length
 | []=>by simp[zn]
 | z::l=>by
  have h1:=qx z.toNat;have h2:=jx l;simp only[zn,List.flatMap_cons,List.length_append,List.length_cons,yj]at h2 ⊢;omega
theorem ug (L:List UInt8)(A:Option Addr)(c:Nat)(l:List Int)(w:World)(hl:qK w A l)(h0:∀z∈l,0≤z)(hs:L.length≤100000)(h1:l.length≤1000) :
    Calls prog 181 #[.string (str L),.slice A l.length c] w (qqT (L++zn l) w):=by
 have HL:=QH hl;have HN:=QH h0;have HS:=QH hs;have HI0:Hid (str L=str (L++zn (l.take 0))):=by unfold Hid;simp[zn]
 clear hl h0 hs;obtain⟨P0,hP0⟩:=QE (str L);rw[hP0]at HI0 ⊢;clear hP0;go_enter func181,ntmps181;go_wp2_with fail;go_loopw [0,6,9] (fun v x i wr=>qzh L l w v x i wr) (fun _ _ i _=>l.length-(intOf i).toNat);case atStart=>exact⟨0,Nat.zero_le _,rfl,by rw[HI0.out],Below.refl _ _⟩
 case round =>
  obtain⟨k,hk,rfl,rfl,hb⟩:=hrel;have HB:=QH hb;clear hb;by_cases hlt:k<l.length
  ·have jG:(k:Int)<(l.length:Int):=by omega
   obtain⟨b,o,rfl,hbl,hc,hz⟩:=HL.out k hlt;have hz0:=HN.out l[k] (List.getElem_mem hlt);have kg:=QH (qfE l k hlt);have bB:=QH (jx (l.take k));have e0:wr.cell? ⟨b,o+k,none⟩=some (.int .i64 l[k]):=by rw[HB.out.cell (p:=⟨b,o+k,none⟩) hbl];exact hc
   have l0:b<wr.heap.size:=Nat.lt_of_lt_of_le hbl HB.out.size;clear hc hbl;obtain⟨u,hu⟩:∃u:Nat,l[k]=(u:Int):=⟨l[k].toNat,by omega⟩;rw[hu]at e0;have zb7:(u:Int)≤9223372036854775807:=by rw[← hu];exact hz.2
   have HU:=QH hu;obtain⟨P,hP⟩:=QE (str (L++zn (l.take k)));have hPs:P.size≤140737488355000:=by
    rw[← hP,qQ,List.length_append];have:=bB.out;have:=HS.out;simp at *;omega
   have HP:=QH hP;have my:=QH hPs;rw[hP];clear hP hPs hu hz hz0;go_wp2_with fail;refine(ke P u wr (by omega) my.out).mono ?_;rintro e w' ⟨rfl,hb'⟩;have HB':=QH (qc HB.out hb');clear hb';go_wp2_with fail;go_roundw;case rel =>
    refine⟨k+1,by omega,by go_num,?_,HB'.out⟩;rw[kg.out,HU.out,← HP.out,zi,List.append_assoc];rfl
   case measure=>simp[intOf];omega
  ·have jG:¬ (k:Int)<(l.length:Int):=by omega
   obtain rfl:k=l.length:=by omega
   rw[List.take_length];go_wp2_with fail;go_ret;exact⟨rfl,HB.out⟩
def qmN (w:World)(a:Option Addr)(l:List Nat):Prop :=
 ∀i (h:i<l.length),∃b o,a=some ⟨b,o,none⟩∧b<w.heap.size∧w.cell? ⟨b,o+i,none⟩=some (.int .u64 (l[i]:Int))∧l[i]<18446744073709551616
def wA (l:List Nat):List UInt8:=l.flatMap zw
theorem qfF(l:List Nat)(k:Nat)(h:k<l.length):wA (l.take (k+1))=wA (l.take k)++zw l[k]:=by
 unfold wA;rw[List.take_succ_eq_append_getElem h,List.flatMap_append];simp
theorem qad:∀l:List Nat,(wA l).length≤9*l.length
 | []=>by simp[wA]
 | z::l=>by
  have h1:=qx z;have h2:=qad l;simp only[wA,List.flatMap_cons,List.length_append,List.length_cons]at h2 ⊢;omega
def qzk (L:List UInt8)(l:List Nat)(w:World)(v x i:Value)(wr:World):Prop :=
 ∃k:Nat,k≤l.length∧i=.int .i64 (k:Int)∧v=.string (str (L++wA (l.take k)))∧Below w.heap.size w wr
theorem qdc(L:List UInt8)(A:Option Addr)(c:Nat)(l:List Nat)(w:World)(hl:qmN w A l)(hs:L.length≤100000)(h1:l.length≤1000) :
    Calls prog 182 #[.string (str L),.slice A l.length c] w (qqT (L++wA l) w):=by
 have HL:=QH hl;have HS:=QH hs;have HI0:Hid (str L=str (L++wA (l.take 0))):=by unfold Hid;simp[wA]
 clear hl hs;obtain⟨P0,hP0⟩:=QE (str L);rw[hP0]at HI0 ⊢;clear hP0;go_enter func182,ntmps182;go_wp2_with fail;go_loopw [0,6,9] (fun v x i wr=>qzk L l w v x i wr) (fun _ _ i _=>l.length-(intOf i).toNat);case atStart=>exact⟨0,Nat.zero_le _,rfl,by rw[HI0.out],Below.refl _ _⟩
 case round =>
  obtain⟨k,hk,rfl,rfl,hb⟩:=hrel;have HB:=QH hb;clear hb;by_cases hlt:k<l.length
  ·have jG:(k:Int)<(l.length:Int):=by omega
   obtain⟨b,o,rfl,hbl,hc,hz⟩:=HL.out k hlt;have kg:=QH (qfF l k hlt);have bB:=QH (qad (l.take k));have e0:wr.cell? ⟨b,o+k,none⟩=some (.int .u64 (l[k]:Int)):=by rw[HB.out.cell (p:=⟨b,o+k,none⟩) hbl];exact hc
   have l0:b<wr.heap.size:=Nat.lt_of_lt_of_le hbl HB.out.size;clear hc hbl;obtain⟨u,hu⟩:=QE (l[k]:Nat);rw[hu]at e0 hz;have HU:=QH hu;have HZ:=QH hz;obtain⟨P,hP⟩:=QE (str (L++wA (l.take k)));have hPs:P.size≤140737488355000:=by
    rw[← hP,qQ,List.length_append];have:=bB.out;have:=HS.out;simp at *;omega
   have HP:=QH hP;have my:=QH hPs;rw[hP];clear hP hPs hu hz;go_wp2_with fail;refine(ke P u wr HZ.out my.out).mono ?_;rintro e w' ⟨rfl,hb'⟩;have HB':=QH (qc HB.out hb');clear hb';go_wp2_with fail;go_roundw;case rel =>
    refine⟨k+1,by omega,by go_num,?_,HB'.out⟩;rw[kg.out,HU.out,← HP.out,zi,List.append_assoc]
   case measure=>simp[intOf];omega
  ·have jG:¬ (k:Int)<(l.length:Int):=by omega
   obtain rfl:k=l.length:=by omega
   rw[List.take_length];go_wp2_with fail;go_ret;exact⟨rfl,HB.out⟩
theorem oG (b:Bool)(w:World):Calls prog 183 #[.bool b] w (fun e w'=>e=.returned (.int .i64 (if b then 1 else 0))∧w'=w):=by
 cases b
 ·go_enter func183,ntmps183;go_wp2_with fail;go_ret;exact⟨rfl,rfl⟩
 ·go_enter func183,ntmps183;go_wp2_with fail;go_ret;exact⟨rfl,rfl⟩
theorem eN (s:ByteArray)(w:World)(hs:s.size≤4611686018427387904) :
    Calls prog 180 #[.string s] w fun e w'=>e=.returned (.int .i64 (nsec s.size:Int))∧w'=w:=by
 have e1:(nsec s.size:Int)=(s.size:Int)/32+(6+(s.size:Int)%32+32-1)/32:=by unfold nsec;omega
 have E1:=QH e1;clear e1;go_enter func180,ntmps180;go_wp2;go_ret;exact⟨by rw[E1.out];rfl,rfl⟩
def qjl (l:List UInt8):List UInt8 × Int:=if 48<nsec l.length then([],3)else(l,0)
theorem qqU(l:List UInt8)(w:World)(hs:l.length≤100000):Calls prog 146 #[.string (str l)] w (fun e w'=>e=.returned (.tuple #[.string (str (qjl l).1),.int .i64 (qjl l).2])∧w'=w):=by
 have HZ:=QH (eN (str l) w (by rw[qQ];omega));rw[qQ]at HZ;have HR:Hid (qjl l=if 48<nsec l.length then([],3)else(l,0)):=rfl;obtain⟨n,hn⟩:=QE (nsec l.length);rw[hn]at HZ HR;obtain⟨S,hS⟩:=QE (str l);have HS:=QH hS;rw[hS]at HZ ⊢;clear hS hn;by_cases h:48<n
 ·have hi:(48:Int)<(n:Int):=by omega
  have jI:Hid (qjl l=([],3)):=by unfold Hid;rw[HR.out,if_pos h]
  clear h;go_enter func146,ntmps146;go_wp2_with fail;refine HZ.out.mono ?_;rintro e _ ⟨rfl,rfl⟩;go_wp2_with fail;go_ret2;exact⟨by rw[jI.out];rfl,rfl⟩
 ·have hi:¬ (48:Int)<(n:Int):=by omega
  have jI:Hid (qjl l=(l,0)):=by unfold Hid;rw[HR.out,if_neg h]
  clear h;go_enter func146,ntmps146;go_wp2_with fail;refine HZ.out.mono ?_;rintro e _ ⟨rfl,rfl⟩;go_wp2_with fail;go_ret2;exact⟨by rw[jI.out,HS.out];rfl,rfl⟩
end Go.Proofs.YtdagdllomphidaaGreatDoor.mt.pg
namespace Go.Proofs.YtdagdllomphidaaGreatDoor.mt.pg
open _root_.Go.Proofs.Tryz Go Go.RowKit ib wi im mt
theorem oH (t:Tk)(A:Option Addr)(c:Nat)(w:World)(h:yM w A t.ql c)(hl:t.ql.length≤1000):Calls prog 153 #[.agg (dy t A c)] w (dL (decide (t=zD)) w):=by
 have hb:=(Below.refl w.heap.size w).alloc (Nat.le_refl _) (.cells (dy t A c) 59);have ha:=qf.new w 59 (dy t A c);obtain⟨W,hW⟩:=QE (w.alloc (.cells (dy t A c) 59));rw[hW]at hb ha;have HT:=QH (sT t zD A none c 0 W (h.below hb) (yM.none _) hl);have HB:=QH hb;have a0:=ha.cell 0;have a1:=ha.cell 1;have a2:=ha.cell 2;have a3:=ha.cell 3;have a4:=ha.cell 4;have a5:=ha.cell 5;have a6:=ha.cell 6;have iA:=ha.lt;simp only[dy,QA,QB,QC]at a0 a1 a2 a3 a4 a5 a6;clear hb ha h hl;unfold dy at hW ⊢;go_enter func153,ntmps153;go_upto_region 1 with fail;try rw[hW]
 clear hW;go_wp2_with fail;refine HT.out.mono ?_;rintro e W9 ⟨rfl,hb9⟩;have HB9:=QH (qc HB.out hb9);clear hb9 a0 a1 a2 a3 a4 a5 a6 iA;go_wp2_with fail;go_ret;exact⟨rfl,HB9.out⟩
theorem qfG(b n:Int)(last:Gd):uv b n last zD=0:=by unfold uv;rw[if_pos (show zD.target=(0,0)from rfl),if_pos (show qaP zD=true by decide)]
theorem qfH(last:Gd):above (0,0) last=false:=by unfold above;simp
theorem qjm{b n:Int}{last:Gd}{t:Tk}(h:t≠zD)(hb:dI t last b=true):uv b n last t=2:=by
 unfold uv;by_cases h0:t.target=(0,0)
 ·rw[if_pos h0,if_neg];intro h1;apply h;unfold qaP at h1;simp only[Bool.and_eq_true,decide_eq_true_eq]at h1;obtain⟨⟨⟨e1,e2⟩,e3⟩,e4⟩:=h1;cases t;simp only at e1 e2 e3 e4 h0;subst e1 e2 e3 e4 h0;rfl
 ·rw[if_neg h0,if_pos hb]
theorem qfI{b n:Int}{last:Gd}{t:Tk}(hb:dI t last b=false):uv b n last t=zN t.ql b n:=by
 unfold uv;rw[if_neg,if_neg (by rw[hb];decide)];intro h0;unfold dI at hb;rw[h0,qfH]at hb;simp at hb
theorem oI (t:Tk)(A:Option Addr)(c:Nat)(last:Gd)(b n:Int)(w:World)(h:yM w A t.ql c)(hl:t.ql.length≤1000)(hb:qD b)(hn:qD n) :
    Calls prog 96 #[.agg (dy t A c),gv last,.int .i64 b,.int .i64 n] w (qiK (uv b n last t) w):=by
 have HN:=QH (And.intro hb hn);have HL:=QH hl;have hb1:=(Below.refl w.heap.size w).alloc (Nat.le_refl _) (.cells (dy t A c) 59);have ha1:=qf.new w 59 (dy t A c);obtain⟨W1,hW1⟩:=QE (w.alloc (.cells (dy t A c) 59));rw[hW1]at hb1 ha1;have hb2:=(Below.refl W1.heap.size W1).alloc (Nat.le_refl _) (.cells #[.int .u64 (last.1:Int),.int .u64 (last.2:Int)] 55);have ha2:=qf.new W1 55 #[.int .u64 (last.1:Int),.int .u64 (last.2:Int)];obtain⟨W2,hW2⟩:=QE (W1.alloc (.cells #[.int .u64 (last.1:Int),.int .u64 (last.2:Int)] 55));rw[hW2]at hb2 ha2;have HB:=QH (qc hb1 hb2);have HA:=QH (ha1.below hb2);have HG:=QH ha2;have HI:=QH (h.below HB.out);have HT:=QH (oH t A c W2 HI.out hl);have a0:=HA.out.cell 0;have a1:=HA.out.cell 1;have a2:=HA.out.cell 2;have a3:=HA.out.cell 3;have a4:=HA.out.cell 4;have a5:=HA.out.cell 5;have a6:=HA.out.cell 6;have iA:=HA.out.lt;simp only[dy,QA,QB,QC]at a0 a1 a2 a3 a4 a5 a6;clear hb1 ha1 hb2 ha2 h hl hb hn;obtain⟨res,hres⟩:=QE (uv b n last t);rw[hres];have xy:=QH hres;clear hres;unfold dy at hW1 ⊢;unfold gv;go_enter func96,ntmps96;go_upto_region 1 with fail;try rw[hW2]
 clear hW1 hW2;obtain⟨gg,hgg⟩:=QE W1.heap.size;rw[hgg]at HG;try rw[hgg]
 clear hgg;go_wp2_with fail;refine HT.out.mono ?_;rintro e W3 ⟨rfl,hb3⟩;have qY:=QH (qc HB.out hb3);have hA:=HA.out.below hb3;have hG:=HG.out.below hb3;have HI3:=QH (HI.out.below hb3);have cd:=QH hA;have HG3:=QH hG;have a0:=hA.cell 0;have a1:=hA.cell 1;have a2:=hA.cell 2;have a3:=hA.cell 3;have a4:=hA.cell 4;have a5:=hA.cell 5;have a6:=hA.cell 6;have g0:=hG.cell 0;have g1:=hG.cell 1;have iA:=hA.lt;have hlg:=hG.lt;simp only[dy,QA,QB,QC]at a0 a1 a2 a3 a4 a5 a6 g0 g1;clear hb3 hA hG HA HG HI;by_cases h0:t=zD
 case' pos =>
  rw[decide_eq_true h0];have HR:Hid (res=0):=by unfold Hid;rw[← xy.out,h0,qfG]
  clear h0;go_wp2_with fail;go_ret;exact⟨by rw[HR.out];rfl,qY.out⟩
 rw[decide_eq_false h0];have vr:Hid (dI t last b=true→res=2):=fun hq=>by rw[← xy.out];exact qjm h0 hq
 have q5q:Hid (dI t last b=false→res=zN t.ql b n):=fun hq=>by rw[← xy.out];exact qfI hq
 have qjn:Hid (dI t last b=(!decide (t.base=last) || !above t.target last || decide (t.next<1) || decide (t.all≤t.next) || decide (b<t.all))):=rfl;clear h0 xy;by_cases h1:t.base=last
 case' neg =>
  have HR:Hid (res=2):=vr.out (by rw[qjn.out,decide_eq_false h1];simp);have hgn:=tX h1;clear h1;rcases hgn with hgn|⟨hgn,qyS⟩
  ·go_wp2_with fail;go_ret;exact⟨by rw[HR.out];rfl,qY.out⟩
  ·go_wp2_with fail;go_ret;exact⟨by rw[HR.out];rfl,qY.out⟩
 rw[h1]at a0 a1;have H1:=QH h1;have HAB:=QH (aS t.target last W3);clear h1;unfold gv at HAB;go_wp2_with fail;refine HAB.out.mono ?_;rintro e W4 ⟨rfl,hb4⟩;have zP:=QH (qc qY.out hb4);have hA:=cd.out.below hb4;have HI4:=QH (HI3.out.below hb4);have a4:=hA.cell 4;have a5:=hA.cell 5;have a6:=hA.cell 6;have iA:=hA.lt;simp only[dy,QA,QB,QC]at a4 a5 a6;clear hb4 hA a0 a1 a2 a3 g0 g1 hlg cd HG3 HI3;obtain⟨q,hq⟩:=QE (above t.target last);rw[hq];cases q with
 | false =>
  have HR:Hid (res=2):=vr.out (by rw[qjn.out,hq];simp);clear hq;go_wp2_with fail;go_ret;exact⟨by rw[HR.out];rfl,zP.out⟩
 | true =>
  have HQ:=QH hq;clear hq;by_cases h2:t.next<1
  ·have HR:Hid (res=2):=vr.out (by rw[qjn.out,decide_eq_true h2];simp);go_wp2_with fail;go_ret;exact⟨by rw[HR.out];rfl,zP.out⟩
  by_cases h3:t.all≤t.next
  ·have HR:Hid (res=2):=vr.out (by rw[qjn.out,decide_eq_true h3];simp);go_wp2_with fail;go_ret;exact⟨by rw[HR.out];rfl,zP.out⟩
  by_cases h4:b<t.all
  ·have HR:Hid (res=2):=vr.out (by rw[qjn.out,decide_eq_true h4];simp);go_wp2_with fail;go_ret;exact⟨by rw[HR.out];rfl,zP.out⟩
  have HR:Hid (res=zN t.ql b n):=q5q.out (by rw[qjn.out,HQ.out,decide_eq_true H1.out,decide_eq_false h2,decide_eq_false h3,decide_eq_false h4];rfl);go_wp2_with fail;refine(cf A c t.ql b n W4 HI4.out HL.out HN.out.1 HN.out.2).mono ?_;rintro e W5 ⟨rfl,hb5⟩;have xQ:=QH (qc zP.out hb5);rw[← HR.out];clear hb5 a4 a5 a6 iA h2 h3 h4;go_wp2_with fail;go_ret;exact⟨rfl,xQ.out⟩
end Go.Proofs.YtdagdllomphidaaGreatDoor.mt.pg
namespace Go.Proofs.YtdagdllomphidaaGreatDoor.mt
open _root_.Go.Proofs.Tryz Go Go.RowKit Go.Sort ib
end Go.Proofs.YtdagdllomphidaaGreatDoor.mt
namespace Go.Proofs.YtdagdllomphidaaGreatDoor.im
open _root_.Go.Proofs.Tryz Go Go.RowKit ib
theorem qzl{w wr:World}(h:Below w.heap.size w wr)(n:Nat):Below w.heap.size w (wr.drewN n):=⟨h.os,h.tape,h.output,h.size,h.block⟩
end Go.Proofs.YtdagdllomphidaaGreatDoor.im
namespace Go.Proofs.YtdagdllomphidaaGreatDoor.mt
open _root_.Go.Proofs.Tryz Go Go.RowKit ib wi im
theorem qdd{m:Mt}{b n:Int}(h1:zN m.live b n=0)(h2:20<m.qa.length):xt m b n=3:=by
 unfold xt;rw[if_neg (show ¬ zN m.live b n≠0 by rw[h1];simp),if_pos h2]
theorem qjo{m:Mt}{b n:Int}(h1:zN m.live b n=0)(h2:¬ 20<m.qa.length):xt m b n=if (xY b n (0,0) m.qa).1≠0 then(xY b n (0,0) m.qa).1 else uv b n (xY b n (0,0) m.qa).2 m.tok:=by
 unfold xt;rw[if_neg (show ¬ zN m.live b n≠0 by rw[h1];simp),if_neg h2]
theorem qjp{b n:Int}{last:Gd}{x:Sp}{r:List Sp}(h:above x.g last=false):xY b n last (x::r)=(2,last):=by
 conv=>lhs;unfold xY
 rw[h];rfl
theorem qjq{b n:Int}{last:Gd}{x:Sp}{r:List Sp}(h:above x.g last=true)(h0:zN x.ql b n≠0):xY b n last (x::r)=(zN x.ql b n,x.g):=by
 conv=>lhs;unfold xY
 rw[if_pos h,if_neg h0]
theorem qfK{b n:Int}{last:Gd}{x:Sp}{r:List Sp}(h:above x.g last=true)(h0:zN x.ql b n=0):xY b n last (x::r)=xY b n x.g r:=by
 conv=>lhs;unfold xY
 rw[if_pos h,if_pos h0]
end Go.Proofs.YtdagdllomphidaaGreatDoor.mt
namespace Go.Proofs.YtdagdllomphidaaGreatDoor.mt.pg
open _root_.Go.Proofs.Tryz Go Go.RowKit ib wi im mt
def q5r (gl:Nat)(b n:Int)(xs:List Sp)(w:World)(i:Value)(wr:World):Prop :=
 ∃(k:Nat) (last:Gd),k≤xs.length∧i=.int .i64 (k:Int)∧qf wr gl 55 #[.int .u64 (last.1:Int),.int .u64 (last.2:Int)]∧xY b n (0,0) xs=xY b n last (xs.drop k)∧qy (fun j=>j=gl) w wr
theorem qae(v:Value)(m:Mt)(b n:Int)(w:World)(h:qaZ w v m)(hs:mtS m)(hbB:qD b)(hnB:qD n):Calls prog 44 #[v,.int .i64 b,.int .i64 n] w (qiK (xt m b n) w):=by
 obtain⟨A0,A1,A2,c0',c1',c2',rfl,hm⟩:=h;have HM:=QH hm;have iU:=QH hs;have HNB:=QH (And.intro hbB hnB);clear hm hs hbB hnB;have hb0:=(Below.refl w.heap.size w).alloc (Nat.le_refl _) (.cells (zq A0 A1 A2 c0' c1' c2' m) 93);have xu:=QH hb0;have HM0:=QH (HM.out.below hb0);have yv:=QH (qf.new w 93 (zq A0 A1 A2 c0' c1' c2' m));obtain⟨w0,hw0⟩:=QE (w.alloc (.cells (zq A0 A1 A2 c0' c1' c2' m) 93));rw[hw0]at xu HM0 yv;clear hb0;have c0:=yv.out.cell 0;unfold zq at c0 hw0 ⊢;simp only[QA,QB,QC]at c0;have hlt:=yv.out.lt;obtain⟨res,hres⟩:=QE (xt m b n);rw[hres];have xy:=QH hres;clear hres;go_enter func44,ntmps44;go_wp2_with fail;try rw[hw0]
 clear hw0 c0 hlt;refine(cf A0 c0' m.live b n w0 HM0.out.live iU.out.live HNB.out.1 HNB.out.2).mono ?_;rintro e W1 ⟨rfl,hb1⟩;have qR:=QH (qc xu.out hb1);have HM1:=QH (HM0.out.below hb1);have iN:=QH (yv.out.below hb1);clear hb1 yv HM0 xu;obtain⟨er,her⟩:=QE (zN m.live b n);rw[her];have HER:=QH her;clear her;by_cases he:er=0
 case' neg =>
  have hne:(er != 0)=true:=by simpa using he
  have hr:res=er:=by rw[← xy.out];unfold xt;rw[HER.out,if_pos he]
  have HR:=QH hr;clear hr he;go_wp2_with fail;go_ret;exact⟨by rw[HR.out];rfl,qR.out⟩
 case' pos =>
  subst he
 have c1:=iN.out.cell 1;simp only[zq,QA,QB,QC]at c1;have hlt:=iN.out.lt;by_cases hl:20<m.qa.length
 case' pos =>
  have eR:(20:Int)<(m.qa.length:Int):=by omega
  have hr:res=3:=by rw[← xy.out];exact qdd HER.out hl
  have HR:=QH hr;clear hr hl;go_wp2_with fail;go_ret;exact⟨by rw[HR.out];rfl,qR.out⟩
 have eR:¬ (20:Int)<(m.qa.length:Int):=by omega
 have hres:(if (xY b n (0,0) m.qa).1≠0 then(xY b n (0,0) m.qa).1 else uv b n (xY b n (0,0) m.qa).2 m.tok)=res:=by
  rw[← xy.out];exact(qjo HER.out hl).symm
 have tW:=QH hres;have q5s:Hid (m.qa.length≤20):=by unfold Hid;omega
 clear hres hl xy HER;have hb2:=(Below.refl _ W1).alloc (Nat.le_refl _) (.cells #[.int .u64 0,.int .u64 0] 55);have qB:=QH (qc qR.out hb2);have HM2:=QH (HM1.out.below hb2);have aP:=QH (iN.out.below hb2);have nk:=QH (qf.new W1 55 #[.int .u64 0,.int .u64 0]);have HGL:Hid (w.heap.size<W1.heap.size):=iN.out.lt;clear hb2;obtain⟨gl,dt⟩:=QE W1.heap.size;obtain⟨W2,hW2⟩:=QE (W1.alloc (.cells #[.int .u64 0,.int .u64 0] 55));rw[hW2]at qB HM2 aP nk;have d1:=aP.out.cell 1;simp only[zq,QA,QB,QC]at d1;have hlt2:=aP.out.lt;go_upto_region 7 with fail;try rw[hW2]
 clear hW2 c1 hlt;go_wp2_with fail;rw[dt]at HGL nk;try rw[dt]
 clear d1 hlt2 iN HM1 qR;clear dt;obtain⟨len,hlen⟩:=QE m.qa.length;have HLEN:=QH hlen;rw[hlen]at q5s ⊢;clear hlen;go_loopw [10,11,27] (fun _ _ i wr=>q5r gl b n m.qa W2 i wr) (fun _ _ i _=>m.qa.length-(intOf i).toNat);case atStart=>exact⟨0,(0,0),Nat.zero_le _,rfl,nk.out,rfl,qy.refl _ _⟩
 case round =>
  obtain⟨k,last,hk,rfl,hbl,hsn,bL⟩:=hrel;have HLA:=QH hbl;have kg:=QH hsn;have HBT:=QH bL;have kV:Hid (Below w.heap.size w wr):=qB.out.trans (bL.below (fun j hj=>by rw[hj];exact Nat.le_of_lt HGL.out) qB.out.size);have HMW:=QH (HM.out.below kV.out);have HAW:=QH (aP.out.of_block (bL.block _ aP.out.lt (fun e=>by have:=HGL.out;omega)));rw[HLEN.out]at hk;clear hbl hsn bL;by_cases hlt:k<len
  ·have jG:(k:Int)<(len:Int):=by omega
   have hkm:k<m.qa.length:=by rw[HLEN.out];exact hlt
   obtain⟨bb,bo,B,cb,hA1,hlb,e0,e1,e2,e3,wU,hgd⟩:=HMW.out.qa k hkm;obtain⟨x,hx⟩:=QE (m.qa[k]);rw[hx]at e0 e1 e2 e3 wU hgd;have HDR:Hid (m.qa.drop k=x::m.qa.drop (k+1)):=by rw[← hx];exact List.drop_eq_getElem_cons hkm
   have HXS:Hid (x.ql.length≤1000):=by rw[← hx];exact iU.out.uD _ (List.getElem_mem hkm)
   subst hA1;have aX:=QH wU;clear wU hgd hx HMW;obtain⟨W3,hW3⟩:=QE (wr.alloc (.cells (snC x B cb) 145));have hb3:Below wr.heap.size wr W3:=by rw[← hW3];exact(Below.refl _ wr).alloc (Nat.le_refl _) _
   have hS:qf W3 wr.heap.size 145 (snC x B cb):=by rw[← hW3];exact qf.new _ _ _
   have qY:=QH hb3;have tZ:=QH hS;have HL3:=QH (HLA.out.below hb3);have x0:=hS.cell 0;have x1:=hS.cell 1;have hlx:=hS.lt;have l0:=HL3.out.cell 0;have l1:=HL3.out.cell 1;have eX:=HL3.out.lt;simp only[snC,QA,QB,QC]at x0 x1 l0 l1;unfold snC at hW3;clear hS hb3;have HAB:=QH (aS x.g last W3);unfold gv at HAB;go_upto_region 10 with fail;try rw[hW3]
   clear hW3 e0 e1 e2 e3;obtain⟨gs,hgs⟩:=QE wr.heap.size;have HGS:=QH hgs;rw[hgs]at x0 x1 hlx tZ;try rw[hgs]
   clear hgs;go_wp2_with fail;refine HAB.out.mono ?_;rintro e W4 ⟨rfl,hb4⟩;have zP:=QH (qc qY.out hb4);have HS4:=QH (tZ.out.below hb4);have HL4:=QH (HL3.out.below hb4);have hS:=HS4.out;have x1':=hS.cell 2;have hlx:=hS.lt;simp only[snC,QA,QB,QC]at x1';clear hb4 x0 x1 l0 l1 eX hS tZ HL3;obtain⟨q,hq⟩:=QE (above x.g last);rw[hq];cases q with
   | false =>
    have HR:Hid (res=2):=by
     unfold Hid;rw[← tW.out,kg.out,HDR.out,qjp hq];rfl
    clear hq;go_wp2_with fail;go_ret;exact⟨by rw[HR.out];rfl,qc kV.out zP.out⟩
   | true =>
    have HQ:=QH hq;clear hq;go_wp2_with fail;refine(cf B cb x.ql b n W4 (aX.out.below zP.out) HXS.out HNB.out.1 HNB.out.2).mono ?_;rintro e W5 ⟨rfl,hb5⟩;have xQ:=QH (qc zP.out hb5);have HS5:=QH (HS4.out.below hb5);have HL5:=QH (HL4.out.below hb5);clear hb5 x1' hlx HS4 HL4;obtain⟨ei,hei⟩:=QE (zN x.ql b n);rw[hei];by_cases he:ei=0
    ·subst he;have HN:Hid (xY b n (0,0) m.qa=xY b n x.g (m.qa.drop (k+1))):=by
      unfold Hid;rw[kg.out,HDR.out,qfK HQ.out hei]
     have x0:=HS5.out.cell 0;have x1:=HS5.out.cell 1;have hlx:=HS5.out.lt;have eX:=HL5.out.lt;have l0:=HL5.out.cell 0;have l1:=HL5.out.cell 1;have f0:=HL5.out.frozen 0;have f1:=HL5.out.frozen 1;simp only[snC,QA,QB,QC]at x0 x1 l0 l1;clear hei;go_wp2_with fail;have HL6:=QH ((HL5.out.qo 0 (.int .u64 (x.g.1:Int))).qo 1 (.int .u64 (x.g.2:Int)));go_roundw;case rel =>
      refine⟨k+1,x.g,by rw[HLEN.out];omega,by go_num,HL6.out,HN.out,?_⟩;have sK:qy (fun j=>j=gl) W2 W5:=HBT.out.trans (qy.of_below xQ.out) (fun i hi=>.inl hi);exact(sK.setCell _ _ (.inl rfl)).setCell _ _ (.inl rfl)
     case measure=>simp[intOf];have:=HLEN.out;omega
    ·have hne:(ei != 0)=true:=by simpa using he
     have HR:Hid (res=ei):=by
      unfold Hid;rw[← tW.out,kg.out,HDR.out,qjq HQ.out (by rw[hei];exact he),hei];simp[he]
     clear hei he;go_wp2_with fail;go_ret;exact⟨by rw[HR.out];rfl,qc kV.out xQ.out⟩
  ·have jG:¬ (k:Int)<(len:Int):=by omega
   have hsn:xY b n (0,0) m.qa=(0,last):=by
    rw[kg.out,List.drop_eq_nil_of_le (by have:=HLEN.out;omega)];rfl
   have HR:Hid (uv b n last m.tok=res):=by
    unfold Hid;rw[← tW.out,hsn];simp
   have HT:=QH (oI m.tok A2 c2' last b n wr (HM.out.ql.below kV.out) iU.out.ql HNB.out.1 HNB.out.2);rw[HR.out]at HT;unfold gv dy at HT;have c2:=HAW.out.cell 2;have c3:=HAW.out.cell 3;have c4:=HAW.out.cell 4;have c5:=HAW.out.cell 5;have c6:=HAW.out.cell 6;have c7:=HAW.out.cell 7;have c8:=HAW.out.cell 8;have l0:=HLA.out.cell 0;have l1:=HLA.out.cell 1;have iA:=HAW.out.lt;have eX:=HLA.out.lt;simp only[zq,QA,QB,QC]at c2 c3 c4 c5 c6 c7 c8 l0 l1;clear hsn kg;go_wp2_with fail;refine HT.out.mono ?_;rintro e W4 ⟨rfl,hb4⟩;have zP:=QH (qc kV.out hb4);clear hb4 c2 c3 c4 c5 c6 c7 c8 l0 l1;go_wp2_with fail;go_ret;exact⟨rfl,zP.out⟩
theorem qmO(L:List UInt8)(z:Int)(W:World)(h0:0≤z)(h1:z≤9223372036854775807)(hs:L.length≤100000) :
    Calls prog 181 #[.string (str L),.slice (some ⟨W.heap.size,0,none⟩) 1 1] (W.alloc (.cells #[.int .i64 z] 3)) (fun e w'=>e=.returned (.string (str (L++yj z)))∧Below W.heap.size W w'):=by
 have h:=ug L (some ⟨W.heap.size,0,none⟩) 1 [z] (W.alloc (.cells #[.int .i64 z] 3)) (dK W [z] (by intro x hx;simp only[List.mem_cons,List.not_mem_nil,or_false]at hx;subst hx;unfold qD;omega)) (by intro x hx;simp only[List.mem_cons,List.not_mem_nil,or_false]at hx;subst hx;exact h0) hs (by simp);refine h.mono ?_;rintro e w' ⟨rfl,hb⟩;exact⟨by simp[zn],qc ((Below.refl _ W).alloc (Nat.le_refl _) _) hb⟩
theorem q5u(L:List UInt8)(z y:Int)(W:World)(h0:0≤z)(h1:z≤9223372036854775807)(h2:0≤y)(h3:y≤9223372036854775807)(hs:L.length≤100000) :
    Calls prog 181 #[.string (str L),.slice (some ⟨W.heap.size,0,none⟩) 2 2] (W.alloc (.cells #[.int .i64 z,.int .i64 y] 3)) (fun e w'=>e=.returned (.string (str (L++(yj z++yj y))))∧Below W.heap.size W w'):=by
 have h:=ug L (some ⟨W.heap.size,0,none⟩) 2 [z,y] (W.alloc (.cells #[.int .i64 z,.int .i64 y] 3)) (dK W [z,y] (by intro x hx;simp only[List.mem_cons,List.not_mem_nil,or_false]at hx;unfold qD;rcases hx with rfl|rfl <;> omega)) (by intro x hx;simp only[List.mem_cons,List.not_mem_nil,or_false]at hx;rcases hx with rfl|rfl <;> assumption) hs (by simp);refine h.mono ?_;rintro e w' ⟨rfl,hb⟩;exact⟨by simp[zn],qc ((Below.refl _ W).alloc (Nat.le_refl _) _) hb⟩
theorem qde(W:World)(l:List Nat)(h:∀z∈l,z<18446744073709551616)(t:TypeId):qmN (W.alloc (.cells (l.map fun(n:Nat)=>Value.int .u64 (n:Int)).toArray t)) (some ⟨W.heap.size,0,none⟩) l:=fun i hi =>
 ⟨W.heap.size,0,rfl,by simp,by rw[Nat.zero_add,(qf.new W t _).cell i];simp[hi],h _ (List.getElem_mem hi)⟩
theorem q5v(L:List UInt8)(g:Gd)(W:World)(hg:zZ g)(hs:L.length≤100000) :
    Calls prog 182 #[.string (str L),.slice (some ⟨W.heap.size,0,none⟩) 2 2] (W.alloc (.cells #[.int .u64 (g.1:Int),.int .u64 (g.2:Int)] 35)) (fun e w'=>e=.returned (.string (str (L++kC g)))∧Below W.heap.size W w'):=by
 have h:=qdc L (some ⟨W.heap.size,0,none⟩) 2 [g.1,g.2] (W.alloc (.cells #[.int .u64 (g.1:Int),.int .u64 (g.2:Int)] 35)) (qde W [g.1,g.2] (by intro x hx;simp only[List.mem_cons,List.not_mem_nil,or_false]at hx;rcases hx with rfl|rfl;exact hg.1;exact hg.2) _) hs (by simp);refine h.mono ?_;rintro e w' ⟨rfl,hb⟩;exact⟨by simp[wA,kC],qc ((Below.refl _ W).alloc (Nat.le_refl _) _) hb⟩
theorem qzn(L:List UInt8)(g y:Gd)(W:World)(hg:zZ g)(hy:zZ y)(hs:L.length≤100000) :
    Calls prog 182 #[.string (str L),.slice (some ⟨W.heap.size,0,none⟩) 4 4] (W.alloc (.cells #[.int .u64 (g.1:Int),.int .u64 (g.2:Int),.int .u64 (y.1:Int),.int .u64 (y.2:Int)] 35)) (fun e w'=>e=.returned (.string (str (L++(kC g++kC y))))∧Below W.heap.size W w'):=by
 have h:=qdc L (some ⟨W.heap.size,0,none⟩) 4 [g.1,g.2,y.1,y.2] (W.alloc (.cells #[.int .u64 (g.1:Int),.int .u64 (g.2:Int),.int .u64 (y.1:Int),.int .u64 (y.2:Int)] 35)) (qde W [g.1,g.2,y.1,y.2] (by intro x hx;simp only[List.mem_cons,List.not_mem_nil,or_false]at hx;rcases hx with rfl|rfl|rfl|rfl;exact hg.1;exact hg.2;exact hy.1;exact hy.2) _) hs (by simp);refine h.mono ?_;rintro e w' ⟨rfl,hb⟩;exact⟨by simp[wA,kC],qc ((Below.refl _ W).alloc (Nat.le_refl _) _) hb⟩
def tkP (t:Tk):List UInt8:=if t=zD then zw 0 else zw 1++(kC t.base++(kC t.target++(yj t.next++(yj t.all++zn t.ql))))
structure TkF(t:Tk):Prop where
 base:zZ t.base
 target:zZ t.target
 next:0≤t.next∧t.next≤9223372036854775807
 all:0≤t.all∧t.all≤9223372036854775807
 ql:∀z∈t.ql,0≤z
 few:t.ql.length≤100
theorem qbi(L:List UInt8)(t:Tk)(A:Option Addr)(c:Nat)(w:World)(h:yM w A t.ql c)(ht:TkF t)(hs:L.length≤50000):Calls prog 184 #[.string (str L),.agg (dy t A c)] w (qqT (L++tkP t) w):=by
 have HT:=QH ht;have HS:=QH hs;have hb:=(Below.refl w.heap.size w).alloc (Nat.le_refl _) (.cells (dy t A c) 59);have ha:=qf.new w 59 (dy t A c);obtain⟨W,hW⟩:=QE (w.alloc (.cells (dy t A c) 59));rw[hW]at hb ha;have HI:=QH (h.below hb);have HN:=QH (oH t A c W HI.out (by have:=ht.few;omega));have HB:=QH hb;have HA:=QH ha;have a0:=ha.cell 0;have a1:=ha.cell 1;have a2:=ha.cell 2;have a3:=ha.cell 3;have a4:=ha.cell 4;have a5:=ha.cell 5;have a6:=ha.cell 6;have iA:=ha.lt;simp only[dy,QA,QB,QC]at a0 a1 a2 a3 a4 a5 a6;clear hb ha h hs ht;unfold dy at hW HN ⊢;go_enter func184,ntmps184;go_upto_region 1 with fail;try rw[hW]
 clear hW;go_wp2_with fail;refine HN.out.mono ?_;rintro e W1 ⟨rfl,hb1⟩;have qR:=QH (qc HB.out hb1);have iN:=QH (HA.out.below hb1);have eY:=QH (HI.out.below hb1);clear hb1 a0 a1 a2 a3 a4 a5 a6 iA HN HA HI HB;by_cases h0:t=zD
 ·have HR:Hid (tkP t=yj 0):=by unfold Hid tkP;rw[if_pos h0];rfl
  rw[decide_eq_true h0];clear h0;go_wp2_with fail;refine(oG false W1).mono ?_;rintro e _ ⟨rfl,rfl⟩;dsimp only;go_wp2_with fail;refine(qmO L 0 _ (by omega) (by omega) (by have:=HS.out;omega)).mono ?_;rintro e W2 ⟨rfl,hb2⟩;have qB:=QH (qc qR.out hb2);rw[← HR.out];clear hb2;go_wp2_with fail;go_ret;exact⟨rfl,qB.out⟩
 ·have HR:Hid (tkP t=yj 1++(kC t.base++(kC t.target++(yj t.next++(yj t.all++zn t.ql))))):=by unfold Hid tkP;rw[if_neg h0];rfl
  rw[decide_eq_false h0];clear h0;go_wp2_with fail;refine(oG true W1).mono ?_;rintro e _ ⟨rfl,rfl⟩;dsimp only;go_wp2_with fail;refine(qmO L 1 _ (by omega) (by omega) (by have:=HS.out;omega)).mono ?_;rintro e W2 ⟨rfl,hb2⟩;have qB:=QH (qc qR.out hb2);have ha:=iN.out.below hb2;have aP:=QH ha;have HI2:=QH (eY.out.below hb2);obtain⟨L1,hL1⟩:=QE (L++yj 1);have HL1:=QH hL1;have aV:Hid (L1.length≤50009):=by
   unfold Hid;rw[← hL1,List.length_append];have:=HS.out;have:=qx (1:Int).toNat;unfold yj;omega
  rw[hL1];have a0:=ha.cell 0;have a1:=ha.cell 1;have a2:=ha.cell 2;have a3:=ha.cell 3;have iA:=ha.lt;simp only[dy,QA,QB,QC]at a0 a1 a2 a3;clear hb2 ha hL1;go_wp2_with fail;refine(qzn L1 t.base t.target _ HT.out.base HT.out.target (by have:=aV.out;omega)).mono ?_;rintro e W3 ⟨rfl,hb3⟩;have qY:=QH (qc qB.out hb3);have ha:=aP.out.below hb3;have cd:=QH ha;have HI3:=QH (HI2.out.below hb3);obtain⟨L2,hL2⟩:=QE (L1++(kC t.base++kC t.target));have nk:=QH hL2;have uI:Hid (L2.length≤50100):=by
   unfold Hid;rw[← hL2];have:=aV.out;have:=qx t.base.1;have:=qx t.base.2;have:=qx t.target.1;have:=qx t.target.2;unfold kC;simp only[List.length_append];omega
  rw[hL2];have a4:=ha.cell 4;have a5:=ha.cell 5;have iA:=ha.lt;simp only[dy,QA,QB,QC]at a4 a5;clear hb3 ha hL2 a0 a1 a2 a3;go_wp2_with fail;refine(q5u L2 t.next t.all _ HT.out.next.1 HT.out.next.2 HT.out.all.1 HT.out.all.2 (by have:=uI.out;omega)).mono ?_;rintro e W4 ⟨rfl,hb4⟩;have zP:=QH (qc qY.out hb4);have ha:=cd.out.below hb4;have HI4:=QH (HI3.out.below hb4);obtain⟨L3,hL3⟩:=QE (L2++(yj t.next++yj t.all));have HL3:=QH hL3;have tZ:Hid (L3.length≤50200):=by
   unfold Hid;rw[← hL3];have:=uI.out;have:=qx t.next.toNat;have:=qx t.all.toNat;unfold yj;simp only[List.length_append];omega
  rw[hL3];have a6:=ha.cell 6;have iA:=ha.lt;simp only[dy,QA,QB,QC]at a6;clear hb4 ha hL3 a4 a5;go_wp2_with fail;refine(ug L3 A c t.ql W4 HI4.out.ints HT.out.ql (by have:=tZ.out;omega) (by have:=HT.out.few;omega)).mono ?_;rintro e W5 ⟨rfl,hb5⟩;have xQ:=QH (qc zP.out hb5);have HE:Hid (L3++zn t.ql=L++tkP t):=by
   unfold Hid;rw[HR.out,← HL3.out,← nk.out,← HL1.out];simp only[List.append_assoc]
  rw[HE.out];clear hb5 a6 iA;go_wp2_with fail;go_ret;exact⟨rfl,xQ.out⟩
end Go.Proofs.YtdagdllomphidaaGreatDoor.mt.pg
namespace Go.Proofs.YtdagdllomphidaaGreatDoor.wi
open _root_.Go.Proofs.Tryz Go.RowKit
end Go.Proofs.YtdagdllomphidaaGreatDoor.wi
namespace Go.Proofs.YtdagdllomphidaaGreatDoor.mt
open _root_.Go.Proofs.Tryz Go Go.RowKit ib wi
theorem qmP(z:Int):(yj z).length≤9:=by
 unfold yj zw;have:=jK z.toNat;simp only[List.length_cons];omega
theorem jx:∀l:List Int,(zn l).length≤9*l.length
 | []=>by simp[zn]
 | z::l=>by
  have h1:=qmP z;have h2:=jx l;simp only[zn,List.flatMap_cons,List.length_append,List.length_cons]at h2 ⊢;omega
end Go.Proofs.YtdagdllomphidaaGreatDoor.mt
namespace Go.Proofs.YtdagdllomphidaaGreatDoor.mt
open _root_.Go.Proofs.Tryz Go Go.RowKit ib wi im
theorem qx (n:Nat):(zw n).length≤9:=by
 unfold zw;have:=jK n;simp only[List.length_cons];omega
theorem qmQ(g:Gd):(kC g).length≤18:=by
 unfold kC;have:=qx g.1;have:=qx g.2;rw[List.length_append];omega
end Go.Proofs.YtdagdllomphidaaGreatDoor.mt
namespace Go.Proofs.YtdagdllomphidaaGreatDoor.mt
open _root_.Go.Proofs.Tryz Go Go.RowKit ib wi
end Go.Proofs.YtdagdllomphidaaGreatDoor.mt
namespace Go.Proofs.YtdagdllomphidaaGreatDoor
open _root_.Go.Proofs.Tryz Go Go.RowKit
section
variable {P:Program} {ops:Array Oper} {Q:Exit→Act→World→Prop} {a0:Act} {m:Nat} {ds:List Tmp} {I:(Nat→Bool)→(Nat→Value)→World→Prop}
end
end Go.Proofs.YtdagdllomphidaaGreatDoor
namespace Go.Proofs.YtdagdllomphidaaGreatDoor.mt
open _root_.Go.Proofs.Tryz Go Go.RowKit ib wi im
theorem qqW(x:Sp)(h:x.ql.length≤8):(spB x).length≤99:=by
 unfold spB;have h1:=qmQ x.g;have h2:=qx (if x.hid then 1 else 0);have h3:=jx x.ql;simp only[List.length_append];omega
theorem eZ:∀(l:List Sp),(∀x∈l,x.ql.length≤8)→(ja l).length≤99*l.length
 | [],_=>by simp[ja]
 | x::l,h=>by
  have h1:=qqW x (h x (by simp));have h2:=eZ l (fun y hy=>h y (by simp[hy]));simp only[ja,List.flatMap_cons,List.length_append,List.length_cons]at h2 ⊢;omega
theorem qjr(l:List Sp)(k:Nat)(h:k<l.length):ja (l.take (k+1))=ja (l.take k)++spB l[k]:=by
 unfold ja;rw[List.take_succ_eq_append_getElem h,List.flatMap_append];simp
theorem qqX(b:Bool):zw (if b then 1 else 0)=yj (if b then 1 else 0):=by cases b <;> rfl
end Go.Proofs.YtdagdllomphidaaGreatDoor.mt
namespace Go.Proofs.YtdagdllomphidaaGreatDoor.mt.pg
open _root_.Go.Proofs.Tryz Go Go.RowKit ib wi im mt
structure qvy(m:Mt):Prop where
 live:∀z∈m.live,0≤z
 few:m.live.length≤8
 qa:∀s∈m.qa,zZ s.g∧s.ql.length≤8∧∀z∈s.ql,0≤z
 qzo:m.qa.length≤20
 tok:TkF m.tok
theorem qqY{m:Mt}(hB:mB m)(h:xt m m.live.length 1024=0):qvy m∧tkP m.tok=tkB m.tok:=by
 obtain⟨h1,h2,h3,h4⟩:=o9 hB h;have ht:=h1.tok;unfold eJ at ht;refine⟨⟨fun z hz=>(h1.live z hz).1,h3,fun s hs=>⟨(h1.qa s hs).1,by rw[(h1.qa s hs).2.1];exact h3,fun z hz=>((h1.qa s hs).2.2 z hz).1⟩,h4,?_⟩,?_⟩
 ·by_cases h0:m.tok.target=(0,0)
  ·rw[if_pos h0]at ht;rw[ht];exact⟨oa,oa,by unfold zD;simp,by unfold zD;simp,fun z hz=>absurd hz (by simp[zD]),by simp[zD]⟩
  ·rw[if_neg h0]at ht;obtain⟨a1,a2,a3,a4,a5,a6⟩:=ht;exact⟨a1,a2,by omega,by omega,fun z hz=>(a6 z hz).1,by omega⟩
 ·unfold tkP tkB;by_cases h0:m.tok.target=(0,0)
  ·rw[if_pos h0]at ht;rw[if_pos h0,if_pos ht]
  ·rw[if_neg h0,if_neg];intro e;exact h0 (by rw[e];rfl)
def qzp (L:List UInt8)(xs:List Sp)(w:World)(v x i:Value)(wr:World):Prop :=
 ∃k:Nat,k≤xs.length∧i=.int .i64 (k:Int)∧v=.string (str (L++ja (xs.take k)))∧Below w.heap.size w wr
theorem jk (A0 A1 A2:Option Addr)(d0 d1 d2:Nat)(m:Mt)(w:World)(hm:MtL w A0 A1 A2 d0 d1 d2 m)(hf:qvy m):Calls prog 147 #[.agg (zq A0 A1 A2 d0 d1 d2 m)] w (qqT (zw m.live.length++(zn m.live++(zw m.qa.length++(ja m.qa++tkP m.tok)))) w):=by
 have HF:=QH hf;have hb:=(Below.refl w.heap.size w).alloc (Nat.le_refl _) (.cells (zq A0 A1 A2 d0 d1 d2 m) 93);have ha:=qf.new w 93 (zq A0 A1 A2 d0 d1 d2 m);obtain⟨W,hW⟩:=QE (w.alloc (.cells (zq A0 A1 A2 d0 d1 d2 m) 93));rw[hW]at hb ha;have HM:=QH (hm.below hb);have HB:=QH hb;have HA:=QH ha;have a0:=ha.cell 0;have iA:=ha.lt;simp only[zq,QA,QB,QC]at a0;clear hb ha hm hf;have HNL:Hid (m.live.length≤8):=HF.out.few;have HNS:Hid (m.qa.length≤20):=HF.out.qzo;unfold zq at hW ⊢;go_enter func147,ntmps147;go_upto_region 1 with fail;try rw[hW]
 clear hW;go_wp2_with fail;have l0:=qmO [] (m.live.length:Int) W (by omega) (by have:=HNL.out;omega) (by simp);refine l0.mono ?_;clear l0;rintro e W1 ⟨rfl,hb1⟩;have qR:=QH (qc HB.out hb1);have ha:=HA.out.below hb1;have iN:=QH ha;have HM1:=QH (HM.out.below hb1);obtain⟨L1,hL1⟩:=QE ([]++yj (m.live.length:Int));have HL1:Hid (L1=zw m.live.length):=by unfold Hid;rw[← hL1];simp[yj]
 rw[hL1];have a0:=ha.cell 0;have iA:=ha.lt;simp only[zq,QA,QB,QC]at a0;clear hb1 ha hL1 HM HA HB;go_wp2_with fail;refine(ug L1 A0 d0 m.live W1 HM1.out.live.ints HF.out.live (by rw[HL1.out];have:=qx m.live.length;omega) (by have:=HNL.out;omega)).mono ?_;rintro e W2 ⟨rfl,hb2⟩;have qB:=QH (qc qR.out hb2);have ha:=iN.out.below hb2;have aP:=QH ha;have HM2:=QH (HM1.out.below hb2);obtain⟨L2,hL2⟩:=QE (L1++zn m.live);have nk:Hid (L2=zw m.live.length++zn m.live):=by unfold Hid;rw[← hL2,HL1.out]
 have uI:Hid (L2.length≤81):=by
  unfold Hid;rw[nk.out,List.length_append];have:=qx m.live.length;have:=jx m.live;have:=HNL.out;omega
 rw[hL2];have a1:=ha.cell 1;have iA:=ha.lt;simp only[zq,QA,QB,QC]at a1;clear hb2 ha hL2 HM1 iN qR a0;go_wp2_with fail;refine(qmO L2 (m.qa.length:Int) W2 (by omega) (by have:=HNS.out;omega) (by have:=uI.out;omega)).mono ?_;rintro e W3 ⟨rfl,hb3⟩;have qY:=QH (qc qB.out hb3);have ha:=aP.out.below hb3;have cd:=QH ha;have HM3:=QH (HM2.out.below hb3);obtain⟨L3,hL3⟩:=QE (L2++yj (m.qa.length:Int));have HL3:Hid (L3=zw m.live.length++(zn m.live++zw m.qa.length)):=by unfold Hid;rw[← hL3,nk.out];simp[yj]
 have tZ:Hid (L3.length≤90):=by
  unfold Hid;rw[← hL3,List.length_append];have:=qx (m.qa.length:Int).toNat;have:=uI.out;unfold yj;omega
 rw[hL3];have a1:=ha.cell 1;have iA:=ha.lt;simp only[zq,QA,QB,QC]at a1;clear hb3 ha hL3 HM2 aP qB;have aX:Hid ((ja m.qa).length≤1980):=by
  unfold Hid;have:=eZ m.qa (fun x hx=>(HF.out.qa x hx).2.1);have:=HNS.out;omega
 have HSK:Hid (∀k,k≤m.qa.length→(ja (m.qa.take k)).length≤1980):=fun k hk=>by
  have:=eZ (m.qa.take k) (fun x hx=>(HF.out.qa x (List.mem_of_mem_take hx)).2.1);have:=HNS.out;have h3:(m.qa.take k).length≤20:=by simp only[List.length_take];omega
  omega
 obtain⟨len,hlen⟩:=QE m.qa.length;have HLEN:=QH hlen;rw[hlen]at a1 HNS HSK;clear hlen;go_wp2_with fail;clear a1;go_loopw [3,5,24] (fun v x i wr=>qzp L3 m.qa W3 v x i wr) (fun _ _ i _=>len-(intOf i).toNat);case atStart=>exact⟨0,Nat.zero_le _,rfl,by simp[ja],Below.refl _ _⟩
 case round =>
  obtain⟨k,hk,rfl,rfl,bL⟩:=hrel;have kV:=QH bL;have HAW:=QH (cd.out.below bL);have HMW:=QH (HM3.out.below bL);rw[HLEN.out]at hk;clear bL;obtain⟨P,hP⟩:=QE (L3++ja (m.qa.take k));have HP:=QH hP;have my:Hid (P.length≤2100):=by
   unfold Hid;rw[← hP,List.length_append];have:=tZ.out;have:=HSK.out k hk;omega
  rw[hP];clear hP;by_cases hlt:k<len
  ·have jG:(k:Int)<(len:Int):=by omega
   have zb8:k≤20:=by have:=HNS.out;omega
   have hkm:k<m.qa.length:=by rw[HLEN.out];exact hlt
   obtain⟨bb,bo,B,cb,hA1,hlb,e0,e1,e2,e3,wU,hgd⟩:=HMW.out.qa k hkm;have hsf:=HF.out.qa _ (List.getElem_mem hkm);have kg:=QH (qjr m.qa k hkm);obtain⟨x,hx⟩:=QE (m.qa[k]);rw[hx]at e0 e1 e2 e3 wU hgd hsf kg;have HSF:=QH hsf;subst hA1;have HSI:=QH wU;clear wU hgd hx hsf;obtain⟨W4,sW⟩:=QE (wr.alloc (.cells (snC x B cb) 145));have hb4:Below wr.heap.size wr W4:=by rw[← sW];exact(Below.refl _ wr).alloc (Nat.le_refl _) _
   have hS:qf W4 wr.heap.size 145 (snC x B cb):=by rw[← sW];exact qf.new _ _ _
   have zP:=QH (qc kV.out hb4);have HI4:=QH (HSI.out.below hb4);have HS4:=QH hS;have x0:=hS.cell 0;have x1:=hS.cell 1;have hlx:=hS.lt;simp only[snC,QA,QB,QC]at x0 x1;unfold snC at sW;clear hS hb4 HSI;go_upto_region 7 with fail;try rw[sW]
   clear sW e0 e1 e2 e3;obtain⟨gs,hgs⟩:=QE wr.heap.size;rw[hgs]at x0 x1 hlx HS4;try rw[hgs]
   clear hgs;go_wp2_with fail;refine(q5v P x.g W4 HSF.out.1 (by have:=my.out;omega)).mono ?_;rintro e W5 ⟨rfl,hb5⟩;have xQ:=QH (qc zP.out hb5);have HI5:=QH (HI4.out.below hb5);have hS:=HS4.out.below hb5;have HS5:=QH hS;obtain⟨P1,hP1⟩:=QE (P++kC x.g);have HP1:=QH hP1;have qzr:Hid (P1.length≤2200):=by
    unfold Hid;rw[← hP1,List.length_append];have:=my.out;have:=qx x.g.1;have:=qx x.g.2;unfold kC;simp only[List.length_append];omega
   rw[hP1];have x3:=hS.cell 3;have hlx:=hS.lt;simp only[snC,QA,QB,QC]at x3;clear hb5 hS hP1 x0 x1 HS4 HI4;go_wp2_with fail;refine(oG x.hid W5).mono ?_;rintro e _ ⟨rfl,rfl⟩;obtain⟨fl,dr⟩:=QE ((if x.hid=true then 1 else 0):Int);rw[dr];have HFL:=QH dr;have hfb:0≤fl∧fl≤1:=by rw[← dr];split <;> omega
   have HFB:=QH hfb;clear dr hfb;go_wp2_with fail;refine(qmO P1 fl _ HFB.out.1 (by have:=HFB.out.2;omega) (by have:=qzr.out;omega)).mono ?_;rintro e W6 ⟨rfl,kU⟩;have jy:=QH (qc xQ.out kU);have HI6:=QH (HI5.out.below kU);have hS:=HS5.out.below kU;obtain⟨P2,hP2⟩:=QE (P1++yj fl);have HP2:=QH hP2;have q5y:Hid (P2.length≤2300):=by
    unfold Hid;rw[← hP2,List.length_append];have:=qzr.out;have:=qx fl.toNat;unfold yj;omega
   rw[hP2];have x2:=hS.cell 2;have hlx:=hS.lt;simp only[snC,QA,QB,QC]at x2;clear kU hS hP2 x3 HS5 HI5;go_wp2_with fail;refine(ug P2 B cb x.ql W6 HI6.out.ints HSF.out.2.2 (by have:=q5y.out;omega) (by have:=HSF.out.2.1;omega)).mono ?_;rintro e W7 ⟨rfl,kG⟩;have gY:=QH (qc jy.out kG);have HE:Hid (P2++zn x.ql=L3++ja (m.qa.take (k+1))):=by
    unfold Hid;rw[kg.out,← HP2.out,← HP1.out,← HP.out,← HFL.out];unfold spB;rw[qqX];simp only[List.append_assoc]
   rw[HE.out];clear kG x2 hlx;go_wp2_with fail;go_roundw;case rel=>exact⟨k+1,by rw[HLEN.out];omega,by go_num,rfl,gY.out⟩
   case measure=>simp[intOf];omega
  ·have jG:¬ (k:Int)<(len:Int):=by omega
   obtain rfl:k=len:=by omega
   have HE:Hid (P=L3++ja m.qa):=by
    unfold Hid;rw[← HP.out,List.take_of_length_le (by have:=HLEN.out;omega)]
   have ha:=HAW.out;have a2:=ha.cell 2;have a3:=ha.cell 3;have a4:=ha.cell 4;have a5:=ha.cell 5;have a6:=ha.cell 6;have a7:=ha.cell 7;have a8:=ha.cell 8;have iA:=ha.lt;simp only[zq,QA,QB,QC]at a2 a3 a4 a5 a6 a7 a8;have HT:=QH (qbi P m.tok A2 d2 wr HMW.out.ql HF.out.tok (by have:=my.out;omega));unfold dy at HT;clear ha HP;go_wp2_with fail;refine HT.out.mono ?_;rintro e W4 ⟨rfl,hb4⟩;have zP:=QH (qc (qc qY.out kV.out) hb4);have HE2:Hid (P++tkP m.tok=zw m.live.length++(zn m.live++(zw m.qa.length++(ja m.qa++tkP m.tok)))):=by
    unfold Hid;rw[HE.out,HL3.out];simp only[List.append_assoc]
   rw[HE2.out];clear hb4 a2 a3 a4 a5 a6 a7 a8 HT;go_wp2_with fail;go_ret;exact⟨rfl,zP.out⟩
theorem qhO(v:Value)(m:Mt)(w:World)(h:qaZ w v m)(hs:mtS m):Calls prog 93 #[v] w (qyF (dn m) w):=by
 have hmB:=h.mB;obtain⟨A0,A1,A2,d0,d1,d2,rfl,hm⟩:=h;have HMB:=QH hmB;have iU:=QH hs;have hb:=(Below.refl w.heap.size w).alloc (Nat.le_refl _) (.cells (zq A0 A1 A2 d0 d1 d2 m) 93);have ha:=qf.new w 93 (zq A0 A1 A2 d0 d1 d2 m);obtain⟨W,hW⟩:=QE (w.alloc (.cells (zq A0 A1 A2 d0 d1 d2 m) 93));rw[hW]at hb ha;have HM:=QH (hm.below hb);have HB:=QH hb;have HA:=QH ha;have a0:=ha.cell 0;have a1:=ha.cell 1;have a2:=ha.cell 2;have a3:=ha.cell 3;have a4:=ha.cell 4;have a5:=ha.cell 5;have a6:=ha.cell 6;have a7:=ha.cell 7;have a8:=ha.cell 8;have iA:=ha.lt;simp only[zq,QA,QB,QC]at a0 a1 a2 a3 a4 a5 a6 a7 a8;have HC:=QH (qae (.agg (zq A0 A1 A2 d0 d1 d2 m)) m (m.live.length:Int) 1024 W ⟨_,_,_,_,_,_,rfl,HM.out⟩ hs (by unfold qD;have:=hs.live;omega) (by unfold qD;omega));clear hb ha hm hs hmB;have qqZ:Hid (dn m=if xt m m.live.length 1024≠0 then([],xt m m.live.length 1024)else if 48<nsec (zI m).length then([],3)else(zI m,0)):=rfl;have HPF:Hid (xt m m.live.length 1024=0→qvy m∧tkP m.tok=tkB m.tok):=fun hq=>qqY HMB.out hq;obtain⟨er,her⟩:=QE (xt m m.live.length 1024);rw[her]at HC qqZ HPF;unfold zq at hW HC ⊢;clear her;go_enter func93,ntmps93;go_upto_region 1 with fail;try rw[hW]
 clear hW;go_wp2_with fail;refine HC.out.mono ?_;rintro e W1 ⟨rfl,hb1⟩;have qR:=QH (qc HB.out hb1);have HM1:=QH (HM.out.below hb1);have ha:=HA.out.below hb1;clear hb1 HC a0 a1 a2 a3 a4 a5 a6 a7 a8 iA;by_cases he:er=0
 ·subst he;obtain⟨hpf,dV⟩:=HPF.out rfl;have HPU:=QH (jk A0 A1 A2 d0 d1 d2 m W1 HM1.out hpf);have qzs:Hid (zw m.live.length++(zn m.live++(zw m.qa.length++(ja m.qa++tkP m.tok)))=zI m):=by unfold Hid;rw[dV];rfl
  rw[qzs.out]at HPU;have HLB:Hid ((zI m).length≤100000):=by
   unfold Hid;rw[← qzs.out];have t1:=eZ m.qa (fun x hx=>(hpf.qa x hx).2.1);have t2:=hpf.qzo;have t3:=hpf.few;have t4:=qx m.live.length;have t5:=jx m.live;have t6:=qx m.qa.length;have t7:(tkP m.tok).length≤1000:=by
    unfold tkP;split
    ·have:=qx 0;omega
    ·have:=qx 1;have:=qx m.tok.base.1;have:=qx m.tok.base.2;have:=qx m.tok.target.1;have:=qx m.tok.target.2;have:=qx m.tok.next.toNat;have:=qx m.tok.all.toNat;have:=jx m.tok.ql;have:=hpf.tok.few;unfold kC yj;simp only[List.length_append];omega
   simp only[List.length_append];omega
  obtain⟨L,hL⟩:=QE (zI m);rw[hL]at HPU HLB qqZ;have sL:Hid (dn m=qjl L):=by unfold Hid;rw[qqZ.out,if_neg (by simp)];rfl
  have a0:=ha.cell 0;have a1:=ha.cell 1;have a2:=ha.cell 2;have a3:=ha.cell 3;have a4:=ha.cell 4;have a5:=ha.cell 5;have a6:=ha.cell 6;have a7:=ha.cell 7;have a8:=ha.cell 8;have iA:=ha.lt;simp only[zq,QA,QB,QC]at a0 a1 a2 a3 a4 a5 a6 a7 a8;unfold zq at HPU;clear hpf dV hL ha;go_wp2_with fail;refine HPU.out.mono ?_;rintro e W2 ⟨rfl,hb2⟩;have qB:=QH (qc qR.out hb2);clear hb2 a0 a1 a2 a3 a4 a5 a6 a7 a8 iA;go_wp2_with fail;refine(qqU L W2 HLB.out).mono ?_;rintro e _ ⟨rfl,rfl⟩;rw[← sL.out];go_wp2_with fail;go_ret2;exact⟨rfl,qB.out⟩
 ·have hne:(er != 0)=true:=by simpa using he
  have HR:Hid (dn m=([],er)):=by unfold Hid;rw[qqZ.out,if_pos he]
  clear he ha;go_wp2_with fail;go_ret2;exact⟨by rw[HR.out];rfl,qR.out⟩
end Go.Proofs.YtdagdllomphidaaGreatDoor.mt.pg
namespace Go.Proofs.YtdagdllomphidaaGreatDoor.mt.pg
open _root_.Go.Proofs.Tryz Go Go.RowKit Go.Proofs.YtdagdllomphidaaGreatDoor.ib Go.Proofs.YtdagdllomphidaaGreatDoor.wi Go.Proofs.YtdagdllomphidaaGreatDoor.im Go.Proofs.YtdagdllomphidaaGreatDoor.mt
theorem iV {fn:Func}{p q:Tmp}{ty:TypeId}(h:fn.results = #[.cell p ty,.tmp q])(tmps:Array Value)(P:Program)(w:World)(a:Addr)(v1 v2:Value)
    (hp:tmps.getD p undef=.pointer (some a)) (hq:tmps.getD q undef=v2) (h1:(loadVar ty a).run P w=.ok v1 w):(results fn tmps).run P w=.ok (.tuple #[v1,v2]) w:=by
 simp only[results,h];simp only[Array.getD_eq_getD_getElem?]at hp hq;simp[Sem.run_bind,Result.andThen,asAddr,hp,hq,h1]
end Go.Proofs.YtdagdllomphidaaGreatDoor.mt.pg
namespace Go.Proofs.YtdagdllomphidaaGreatDoor.mt
open _root_.Go.Proofs.Tryz Go Go.RowKit Go.Proofs.YtdagdllomphidaaGreatDoor.ib
end Go.Proofs.YtdagdllomphidaaGreatDoor.mt
namespace Go.Proofs.YtdagdllomphidaaGreatDoor.dk
abbrev Bt:=List UInt8
abbrev qH:=List (Option Bt)
def zz:Bt:=List.replicate 32 0
def rep (c:UInt8)(n:Nat):Bt:=List.replicate n c
def vB (c:UInt8):Bt:=if c.toNat≤250 then rep c 32 else rep c (c.toNat%31)
theorem qZ:zz.length=32:=by simp[zz]
def look (s:qH)(k:Int):Option Bt:=if 0≤k then(s[k.toNat]?).getD none else none
def put (s:qH)(k:Nat)(v:Bt):qH:=s.set k (some v)
def cnt (s:qH):Nat:=s.countP Option.isSome
theorem oJ (s:qH)(k:Nat):look s (k:Int)=(s[k]?).getD none:=by simp[look]
theorem zM (s:qH)(k:Nat)(o:Option Bt)(h:k<s.length):look (s.set k o) (k:Int)=o:=by
 rw[oJ,List.getElem?_set_self h];rfl
theorem zY (s:qH)(k:Nat)(j:Int)(o:Option Bt)(h:j≠(k:Int)):look (s.set k o) j=look s j:=by
 unfold look;split
 ·rw[List.getElem?_set_ne (by omega)]
 ·rfl
theorem qhP(s:qH)(k:Nat)(u:Bt)(h:k<s.length)(hx:s[k]=some u):1≤cnt s :=
 List.countP_pos_iff.2 ⟨_,List.getElem_mem h,by rw[hx];rfl⟩
theorem gq (s:qH)(k:Nat)(v:Bt)(h:k<s.length):cnt (s.set k (some v))=if (look s (k:Int)).isSome then cnt s else cnt s+1:=by
 unfold cnt;rw[List.countP_set h,oJ,List.getElem?_eq_getElem h];cases hx:s[k]with
 | none=>simp
 | some u =>
  have hle:=qhP s k u h hx;unfold cnt at hle;simp;omega
theorem qbk(s:qH)(k:Nat)(h:k<s.length):cnt (s.set k none)+(if (look s (k:Int)).isSome then 1 else 0)=cnt s:=by
 unfold cnt;rw[List.countP_set h,oJ,List.getElem?_eq_getElem h];cases hx:s[k]with
 | none=>simp
 | some u =>
  have hle:=qhP s k u h hx;unfold cnt at hle;simp;omega
theorem qbl(s:qH):cnt s≤s.length:=List.countP_le_length
structure DD where
 room:Int
 base:qH
 more:List (Nat × Bt)
 on:Bool
 qp:Int
def qX (s:qH)(l:List (Nat × Bt)):qH:=l.foldl (fun s w=>put s w.1 w.2) s
theorem xn:∀(l:List (Nat × Bt)) (s:qH),(qX s l).length=s.length
 | [],_=>rfl
 | w::l,s=>by rw[qX,List.foldl_cons,← qX,xn l];simp[put]
theorem iW (s:qH)(w:Nat × Bt)(l:List (Nat × Bt)):qX s (w::l)=qX (put s w.1 w.2) l:=rfl
theorem iX (s:qH)(l:List (Nat × Bt))(w:Nat × Bt):qX s (l++[w])=put (qX s l) w.1 w.2:=by simp[qX]
theorem jz (s:qH)(l r:List (Nat × Bt)):qX s (l++r)=qX (qX s l) r:=by simp[qX]
def DD.n (d:DD):Nat:=d.base.length
def DD.now (d:DD):qH:=qX d.base d.more
theorem DD.js(d:DD):d.now.length=d.n:=xn _ _
def DD.used(d:DD):Nat:=cnt d.now
def DD.has (d:DD)(at_:Int):Bool:=decide (0≤at_)&&decide (at_<(d.n:Int))
structure DD.ok(d:DD)(most:Nat):Prop where
 n0:1≤d.n
 n1:d.n≤1024
 qzt:0≤d.room
 qzu:d.room≤9223372036854775807
 qhQ:0≤d.qp
 qhR:d.qp≤9223372036854775807
 qdg:d.more.length≤most
 at1:∀w∈d.more,w.1<d.n∧w.2.length=32
 qt0:∀v,some v∈d.base→v.length=32
theorem DD.ok.mono{d:DD}{m m':Nat}(h:d.ok m)(hm:m≤m'):d.ok m':={ h with qdg:=Nat.le_trans h.qdg hm }
theorem mem_set{s:qH}{k:Nat}{o:Option Bt}{v:Bt}(h:some v∈s.set k o):some v∈s∨o=some v:=by
 rcases List.mem_or_eq_of_mem_set h with h|h
 ·exact .inl h
 ·exact .inr h.symm
theorem dW {l:List (Nat × Bt)}:∀ {s:qH},(∀v,some v∈s→v.length=32)→(∀w∈l,w.2.length=32)→∀v,some v∈qX s l→v.length=32:=by
 induction l with
 | nil=>intro s h _ v hv;exact h v hv
 | cons w l ih =>
  intro s h hl v hv;refine ih (s:=put s w.1 w.2) (fun u hu=>?_) (fun x hx=>hl x (by simp[hx])) v hv;rcases mem_set hu with h' | h'
  ·exact h u h'
  ·injection h' with h';subst h';exact hl w (by simp)
theorem DD.ok.qzv{d:DD}{m:Nat}(h:d.ok m):∀v,some v∈d.now→v.length=32:=dW h.qt0 (fun w hw=>(h.at1 w hw).2)
theorem qmS{s:qH}{k:Int}{v:Bt}(h:look s k=some v):some v∈s:=by
 unfold look at h;split at h
 ·cases hx:s[k.toNat]? with
  | none=>rw[hx]at h;simp at h
  | some o=>rw[hx]at h;simp at h;subst h;exact List.mem_of_getElem? hx
 ·cases h
theorem DD.ok.qaf{d:DD}{m:Nat}(h:d.ok m){k:Int}{v:Bt}(hv:look d.now k=some v):v.length=32:=h.qzv v (qmS hv)
def iY:qH→List (Nat × Bt)→List (Nat × Bt × Bt × Bool)
 | _,[]=>[]
 | s,(k,v)::r=>(k,v,(look s (k:Int)).getD zz,(look s (k:Int)).isSome)::iY (put s k v) r
theorem qag:∀(l:List (Nat × Bt)) (s:qH) (k:Nat) (v:Bt),
    iY s (l++[(k,v)])=iY s l++[(k,v,(look (qX s l) (k:Int)).getD zz,(look (qX s l) (k:Int)).isSome)]
 | [],s,k,v=>rfl
 | (j,u)::r,s,k,v=>by
  show _::iY (put s j u) (r++[(k,v)])=_;rw[qag r];rfl
def stay (l:List (Nat × Bt))(keep:List Bool):List (Nat × Bt) :=
 match l,keep with
 | w::l,b::keep=>(if b then[w]else[])++stay l keep
 | _,_=>[]
theorem qmT(l:List (Nat × Bt)):stay l []=[]:=by cases l <;> rfl
theorem oK:∀(l:List (Nat × Bt)) (keep:List Bool) (w:Nat × Bt),w∈stay l keep→w∈l
 | [],keep,w,h=>by cases keep <;> simp[stay]at h
 | x::l,[],w,h=>by simp[stay]at h
 | x::l,b::keep,w,h=>by
  simp only[stay,List.mem_append]at h;rcases h with h|h
  ·cases b <;> simp at h;simp[h]
  ·exact List.mem_cons_of_mem _ (oK l keep w h)
def DD.new (qra:Nat)(room:Int):DD:={ room:=room,base:=List.replicate qra none,more:=[],on:=true,qp:=0 }
def DD.off (d:DD):DD:={ d with on:=false,qp:=0 }
def DD.qzw (d:DD)(keep:List Bool):DD:=if d.on then d else { d with base:=qX d.base (stay d.more keep),more:=[],on:=true }
def DD.oper(d:DD):DD:=if d.qp=1 then d.off else if 1<d.qp then { d with qp:=d.qp-1 }else d
def DD.write(d:DD)(at_:Int)(data:Bt):Int × DD :=
 if d.on=false then(6,d)
 else if d.has at_=false∨data.length≠32 then(2,d)
 else if (look d.now at_).isSome=false∧d.room≤(d.used:Int)then(7,d)
 else if d.oper.on=false then(6,d.oper)
 else(0,{ d.oper with more:=d.more++[(at_.toNat,data)] })
def DD.flush(d:DD):Int × DD :=
 if d.on=false then(6,d)
 else if d.oper.on=false then(6,d.oper)
 else(0,{ d.oper with base:=d.now,more:=[] })
def DD.read(d:DD)(at_:Int):Bt × Int :=
 if d.on=false then([],6)
 else if d.has at_=false then([],2)
 else((look d.now at_).getD zz,0)
def fresh (s:qH):List Int→List Int→List Int
 | acc,[]=>acc
 | acc,x::r=>if (look s x).isSome || acc.contains x then fresh s acc r else fresh s (acc++[x]) r
def DD.fits(d:DD)(l:List Int):Bool :=
 l.all d.has&&(decide ((fresh d.now [] l).length=0) || decide (((fresh d.now [] l).length:Int)≤d.room-(d.used:Int)))
end Go.Proofs.YtdagdllomphidaaGreatDoor.dk
namespace Go.Proofs.YtdagdllomphidaaGreatDoor.dk
open _root_.Go.Proofs.Tryz Go Go.RowKit
abbrev D1:=DataW Unit
def qmU:Value→D1
 | .int k a=>.lit (.int k a)
 | _=>.nil
def qah:Value→Option (D1 × List MemPlace)
 | .agg cs=>some (.agg (cs.toList.map qmU),[])
 | _=>none
def fg (v:Bt):Value:=.agg (Lib.byteCells v).toArray
def qfM (v:Bt):D1:=.agg ((Lib.byteCells v).map qmU)
theorem oL (v:Bt):qah (fg v)=some (qfM v,[]):=by simp[qah,fg,qfM]
theorem qdh:∀(l:List Value) (v:Bt),l.map qmU=(Lib.byteCells v).map qmU→l=Lib.byteCells v
 | [],[],_=>rfl
 | x::l,[],h=>by simp[Lib.byteCells]at h
 | [],b::v,h=>by simp[Lib.byteCells]at h
 | x::l,b::v,h=>by
  simp only[Lib.byteCells,List.map_cons,List.cons.injEq]at h ⊢;refine⟨?_,qdh l v h.2⟩;have h1:=h.1;cases x <;> simp[qmU]at h1;rw[h1.1,h1.2]
theorem qai{x:Value}{v:Bt}{ps:List MemPlace}(h:qah x=some (qfM v,ps)):x=fg v:=by
 cases x <;> simp[qah,qfM]at h;rename_i cs;have:=qdh cs.toList v (by simpa using h.1);rw[fg,← this]
theorem qrb:fg zz=.agg #[Value.int IntKind.u8 0,Value.int IntKind.u8 0,Value.int IntKind.u8 0,Value.int IntKind.u8 0,Value.int IntKind.u8 0,Value.int IntKind.u8 0,Value.int IntKind.u8 0,Value.int IntKind.u8 0,Value.int IntKind.u8 0,Value.int IntKind.u8 0,Value.int IntKind.u8 0,Value.int IntKind.u8 0,Value.int IntKind.u8 0,Value.int IntKind.u8 0,Value.int IntKind.u8 0,Value.int IntKind.u8 0,Value.int IntKind.u8 0,Value.int IntKind.u8 0,Value.int IntKind.u8 0,Value.int IntKind.u8 0,Value.int IntKind.u8 0,Value.int IntKind.u8 0,Value.int IntKind.u8 0,Value.int IntKind.u8 0,Value.int IntKind.u8 0,Value.int IntKind.u8 0,Value.int IntKind.u8 0,Value.int IntKind.u8 0,Value.int IntKind.u8 0,Value.int IntKind.u8 0,Value.int IntKind.u8 0,Value.int IntKind.u8 0]:=rfl
def xo (w:World)(m:Nat)(s:qH):Prop :=
 ∃D:D1,w.ownsMap prog 3 qah m (Maps.size D) D∧(∀k:Int,Maps.has D (.int .i64 k)=(look s k).isSome) ∧
  (∀(k:Int) v,look s k=some v→∀z,D.atKey (.int .i64 k) z=qfM v)∧Maps.size D=cnt s
theorem iZ {w:World}{b n:Nat}{D:D1}{P:Program}{k:TypeId}{R:Value→Option (D1 × List MemPlace)}(h:w.ownsMap P k R b n D):w.ownsMap P k R b (Maps.size D) D:=by
 obtain⟨es,clock,hb,F,_,rfl⟩:=h;exact⟨es,clock,hb,F,by simp[Maps.size,length_sorted],rfl⟩
theorem xo.lt{w:World}{m:Nat}{s:qH}(h:xo w m s):m<w.heap.size:=by
 obtain⟨D,h1,_⟩:=h;exact h1.lt
theorem xo.of_block{w w':World}{m:Nat}{s:qH}(h:xo w m s)(hb:w'.heap[m]?=w.heap[m]?):xo w' m s:=by
 obtain⟨D,⟨es,clock,h1,h2⟩,h3⟩:=h;exact⟨D,⟨es,clock,hb.trans h1,h2⟩,h3⟩
theorem xo.made(w:World)(n:Nat):xo (w.alloc (.map #[] 0)) w.heap.size (List.replicate n none):=by
 have hl:∀k:Int,look (List.replicate n none) k=none:=by
  intro k;unfold look;split
  ·simp only[List.getElem?_replicate];split <;> rfl
  ·rfl
 refine⟨.map [],World.ownsMap_made w prog 3 qah,fun k=>by rw[hl];rfl,fun k v h=>(by rw[hl]at h;cases h),?_⟩;simp[Maps.size,cnt,List.countP_replicate]
theorem qfN(k:Int):WideAt.IsKeyLit (Lit.int .i64 k):=trivial
abbrev keyed:Go.Maps.Keyed prog 3:=Go.Maps.int_keyed underlying3
theorem qrc(k:Int)(h0 : -9223372036854775808≤k)(h1:k≤9223372036854775807):(Lit.int .i64 k).wf=true:=WalkArith.wf_i64 (by omega)
theorem xo.find{w:World}{m:Nat}{s:qH}(h:xo w m s)(k:Int)(h0 : -9223372036854775808≤k)(h1:k≤9223372036854775807) :
    (Instr.lookup 104 (.map (some m)) (.int .i64 k) true).run prog w=.ok (.tuple #[fg ((look s k).getD zz),.bool (look s k).isSome]) w ∧
    (Instr.lookup 104 (.map (some m)) (.int .i64 k) false).run prog w=.ok (fg ((look s k).getD zz)) w:=by
 obtain⟨D,hown,hh,ha,_⟩:=h;have hkey:=Go.Maps.keyOf_int_mk (P:=prog) (k:=3) underlying3 (qrc k h0 h1);have hz:(zeroValue 123).run prog w=.ok (fg zz) w:=by rw[qrb];exact zeroValue123 w
 have hat:D.atKey (.int .i64 k) (qfM zz)=qfM ((look s k).getD zz):=by
  cases hx:look s k with
  | none=>exact Maps.atKey_of_not_has (by rw[hh,hx];rfl) _
  | some v=>exact ha k v hx _
 obtain⟨v,ps,hrun,hv⟩:=hown.look_ok keyed underlying104 hz (oL zz) hkey;obtain⟨v2,ps2,mq,hv2⟩:=hown.lookup keyed underlying104 hz (oL zz) hkey;rw[hat]at hv hv2;rw[qai hv,hh]at hrun;rw[qai hv2]at mq;exact⟨hrun,mq⟩
theorem xo.len{w:World}{m:Nat}{s:qH}(h:xo w m s)(ty:TypeId):(Builtin.len_ #[104] ty #[.map (some m)]).run prog w=.ok (.int .i64 (cnt s:Int)) w:=by
 obtain⟨D,hown,_,_,hc⟩:=h;rw[← hc];exact hown.len underlying104 ty
theorem oM {a b:Int}(h:a≠b):(Lit.int .i64 a)≠Lit.int .i64 b:=fun e=>h (by injection e)
theorem xo.store{w:World}{m:Nat}{s:qH}(h:xo w m s)(k:Nat)(v:Bt)(hk:k<s.length)(h1:s.length≤1024) :
    ∃w',(Instr.mapUpdate 104 (.map (some m)) (.int .i64 (k:Int)) (fg v)).run prog w=.ok () w'∧xo w' m (put s k v)∧w.mapTurned w' m:=by
 obtain⟨D,hown,hh,ha,hc⟩:=h;have hkey:=Go.Maps.keyOf_int_mk (P:=prog) (k:=3) underlying3 (qrc (k:Int) (by omega) (by omega));have hti:=hown.tidy keyed;have hcl:=qbl s;obtain⟨w',hrun,r1,r2⟩:=hown.store keyed underlying104 (by unfold maxLen;omega) hkey (oL v);refine⟨w',hrun,⟨_,iZ r1,?_,?_,?_⟩,r2⟩
 ·intro j;by_cases e:j=(k:Int)
  ·subst e;rw[Maps.has_put_same hti.isMap (qfN _),put,zM _ _ _ hk];rfl
  ·rw[Maps.has_put_other (oM e),put,zY _ _ _ _ e,hh]
 ·intro j u hu z;by_cases e:j=(k:Int)
  ·subst e;rw[put,zM _ _ _ hk]at hu;injection hu with hu
   subst hu;exact Maps.atKey_put_same hti.isMap (qfN _) _ _
  ·rw[put,zY _ _ _ _ e]at hu;rw[Maps.atKey_put_other (oM e)];exact ha j u hu z
 ·rw[Maps.size_put hti,put,gq _ _ _ hk,hh,hc]
theorem xo.drop{w:World}{m:Nat}{s:qH}(h:xo w m s)(k:Nat)(hk:k<s.length)(h1:s.length≤1024)(ty:TypeId) :
    ∃w',(Builtin.delete_ #[104,3] ty #[.map (some m),.int .i64 (k:Int)]).run prog w=.ok (.tuple #[]) w'∧xo w' m (s.set k none)∧w.mapTurned w' m:=by
 obtain⟨D,hown,hh,ha,hc⟩:=h;have hkey:=Go.Maps.keyOf_int_mk (P:=prog) (k:=3) underlying3 (qrc (k:Int) (by omega) (by omega));have hti:=hown.tidy keyed;obtain⟨w',hrun,r1,r2⟩:=hown.drop keyed underlying104 hkey ty;refine⟨w',hrun,⟨_,iZ r1,?_,?_,?_⟩,r2⟩
 ·intro j;by_cases e:j=(k:Int)
  ·subst e;rw[Maps.has_del_same,zM _ _ _ hk];rfl
  ·rw[Maps.has_del_other (oM e),zY _ _ _ _ e,hh]
 ·intro j u hu z;by_cases e:j=(k:Int)
  ·subst e;rw[zM _ _ _ hk]at hu;cases hu
  ·rw[zY _ _ _ _ e]at hu;rw[Maps.atKey_del_other (oM e)];exact ha j u hu z
 ·have g1:=Maps.size_del (k:=.int .i64 (k:Int)) hti;have g2:=qbk s k hk;rw[hh]at g1;omega
def qf (w:World)(g:Nat)(t:TypeId)(cs:Array Value):Prop:=w.heap[g]?=some (.cells cs t (0,0))
section
variable {w w':World} {g:Nat} {t:TypeId} {cs:Array Value}
theorem qf.lt(h:qf w g t cs):g<w.heap.size:=by
 unfold qf at h;exact(Array.getElem?_eq_some_iff.1 h).1
theorem qf.cell(h:qf w g t cs)(i:Nat):w.cell? ⟨g,i,none⟩=cs[i]? :=cell_of_row w g i cs t (0,0) h
theorem qf.frozen(h:qf w g t cs)(i:Nat):w.frozen? ⟨g,i,none⟩=false:=by
 unfold qf at h;simp[World.frozen?,h]
theorem qf.new(w:World)(t:TypeId)(cs:Array Value):qf (w.alloc (.cells cs t)) w.heap.size t cs:=heap_alloc_new w _
theorem qf.of_block(h:qf w g t cs)(hb:w'.heap[g]?=w.heap[g]?):qf w' g t cs:=hb.trans h
theorem qf.qo(h:qf w g t cs)(i:Nat)(u:Value):qf (w.setCell ⟨g,i,none⟩ u) g t (cs.setIfInBounds i u):=heap_setCell_same w g i cs t u h
end
structure qy(S:Nat→Prop)(w w':World):Prop where
 os:w'.os=w.os
 tape:w'.tape=w.tape
 output:w'.output=w.output
 size:w.heap.size≤w'.heap.size
 block:∀k,k<w.heap.size→¬ S k→w'.heap[k]?=w.heap[k]?
section
variable {S S':Nat→Prop} {a b c w w':World}
theorem qy.refl(S:Nat→Prop)(w:World):qy S w w:=⟨rfl,rfl,rfl,Nat.le_refl _,fun _ _ _=>rfl⟩
theorem qy.trans(h:qy S a b)(k:qy S' b c)(hs:∀i,S' i→S i∨a.heap.size≤i):qy S a c :=
 ⟨k.os.trans h.os,k.tape.trans h.tape,k.output.trans h.output,Nat.le_trans h.size k.size,fun i hi hn=>by
  refine(k.block i (Nat.lt_of_lt_of_le hi h.size) (fun e=>?_)).trans (h.block i hi hn);rcases hs i e with h1|h1
  ·exact hn h1
  ·omega⟩
theorem qy.mono(h:qy S w w')(hs:∀i,S i→S' i):qy S' w w':=⟨h.os,h.tape,h.output,h.size,fun k hk hn=>h.block k hk (fun e=>hn (hs k e))⟩
theorem qy.of_below(h:Below w.heap.size w w'):qy S w w':=⟨h.os,h.tape,h.output,h.size,fun k hk _=>h.block k hk⟩
theorem qy.qdi{row:Option Nat}(h:w.grownBy w' row)(hs:∀k,row=some k→S k):qy S w w' :=
 ⟨h.os,h.tape,h.output,h.size,fun k hk hn=>h.block k hk (fun e=>hn (hs k e.symm))⟩
theorem qy.drew(h:qy S a w):qy S a w.drew:=⟨h.os,h.tape,h.output,h.size,h.block⟩
theorem qy.drewN(h:qy S a w)(n:Nat):qy S a (w.drewN n):=⟨h.os,h.tape,h.output,h.size,h.block⟩
theorem qy.alloc(h:qy S a w)(o:Obj):qy S a (w.alloc o) :=
 h.trans (S':=fun _=>False) ⟨rfl,rfl,rfl,by simp,fun k hk _=>Below.heap_alloc _ _ _ hk⟩ (fun _ e=>e.elim)
theorem qy.setCell(h:qy S a w)(p:Addr)(u:Value)(hp:S p.block∨a.heap.size≤p.block):qy S a (w.setCell p u) :=
 h.trans (S':=fun k=>k=p.block) ⟨rfl,rfl,rfl,by simp[World.setCell],fun k _ hn=>Below.heap_setCell _ _ _ _ hn⟩ (fun i e=>by rw[e];exact hp)
theorem qy.grown{row:Option Nat}(h:qy S a w)(hg:w.grownBy w' row)(hs:∀k,row=some k→S k∨a.heap.size≤k):qy S a w' :=
 h.trans (S':=fun k=>row=some k) (qy.qdi hg (fun _ e=>e)) hs
theorem qy.below{B:Nat}(h:qy S a w)(hs:∀i,S i→B≤i)(hB:B≤a.heap.size):Below B a w :=
 ⟨h.os,h.tape,h.output,h.size,fun k hk=>h.block k (by omega) (fun e=>by have:=hs k e;omega)⟩
end
def qj (x:Nat × Bt × Bt × Bool):List Value:=.int .i64 (x.1:Int)::(Lib.byteCells x.2.1++(Lib.byteCells x.2.2.1++[.bool x.2.2.2]))
def wC (l:List (Nat × Bt × Bt × Bool)):List Value:=l.flatMap qj
theorem yg {w w':World}{base e size n:Nat}{v:Value}{xs:List Value}(h:w.ownsRow base e size v n xs)(hb:∀k,v.ownBlock=some k→w'.heap[k]?=w.heap[k]?):w'.ownsRow base e size v n xs:=by
 refine⟨h.1,?_⟩;rcases h.2 with hn|⟨g,cap,cur,rfl,h1,h2,r⟩
 ·exact .inl hn
 ·exact .inr ⟨g,cap,cur,rfl,h1,(hb g rfl).trans h2,r⟩
theorem l5 {w:World}{base e size n:Nat}{v:Value}{xs:List Value}(h:w.ownsRow base e size v n xs):∀k,v.ownBlock=some k→k<w.heap.size:=by
 intro k hk;rcases h.2 with⟨rfl,_⟩|⟨g,cap,cur,rfl,h1,h2,r⟩
 ·cases hk
 ·simp[Value.ownBlock]at hk;subst hk;exact(Array.getElem?_eq_some_iff.1 h2).1
def uK (w:World)(own:Nat→Prop)(p m:Nat)(v:Value)(d:DD):Prop :=
 qf w p 107 #[.int .i64 (d.n:Int),.int .i64 d.room,.map (some m),v,.bool d.on,.int .i64 d.qp]∧xo w m d.now ∧
 w.ownsRow 0 125 66 v d.more.length (wC (iY d.base d.more)) ∧
 own p∧own m∧(∀k,v.ownBlock=some k→own k)∧(∀k,own k→k<w.heap.size)
def zG (most:Nat)(w:World)(own:Nat→Prop)(p:Nat)(d:DD):Prop:=d.ok most∧∃m v,uK w own p m v d
theorem uK.ne{w:World}{own:Nat→Prop}{p m:Nat}{v:Value}{d:DD}(h:uK w own p m v d):p≠m∧(∀k,v.ownBlock=some k→k≠p∧k≠m):=by
 obtain⟨h1,⟨D,⟨es,clock,h2,_⟩,_⟩,h3,_⟩:=h;unfold qf at h1;refine⟨?_,?_⟩
 ·rintro rfl;rw[h1]at h2;cases h2
 ·intro k hk;rcases h3.2 with⟨rfl,_⟩|⟨g,cap,cur,rfl,_,hg,_⟩
  ·cases hk
  ·simp[Value.ownBlock]at hk;subst hk;refine⟨?_,?_⟩
   ·rintro rfl;rw[h1]at hg;simp only[Option.some.injEq,Obj.cells.injEq]at hg;exact absurd hg.2.1 (by decide)
   ·rintro rfl;rw[h2]at hg;cases hg
theorem uK.keep{w w':World}{own:Nat→Prop}{p m:Nat}{v:Value}{d:DD}(h:uK w own p m v d)(hs:w.heap.size≤w'.heap.size)(hb:∀k,own k→w'.heap[k]?=w.heap[k]?):uK w' own p m v d:=by
 obtain⟨h1,h2,h3,hp,hm,hv,hl⟩:=h;exact⟨h1.of_block (hb _ hp),h2.of_block (hb _ hm),yg h3 (fun k hk=>hb k (hv k hk)),hp,hm,hv,fun k hk=>Nat.lt_of_lt_of_le (hl k hk) hs⟩
theorem zG.keep{most:Nat}{w w':World}{own:Nat→Prop}{p:Nat}{d:DD}(h:zG most w own p d)(hs:w.heap.size≤w'.heap.size)(hb:∀k,own k→w'.heap[k]?=w.heap[k]?):zG most w' own p d:=by
 obtain⟨h0,m,v,h1⟩:=h;exact⟨h0,m,v,h1.keep hs hb⟩
def vF (own jT:Nat→Prop)(w:World):Prop:=∀k,jT k→own k∨w.heap.size≤k
theorem vF.refl(own:Nat→Prop)(w:World):vF own own w:=fun _ h=>.inl h
def xA (most:Nat)(own:Nat→Prop)(p:Nat)(d:DD)(r:Value)(w:World)(e:Ending)(w':World):Prop :=
 e=.returned r∧∃jT,zG most w' jT p d∧qy own w w'∧vF own jT w
end Go.Proofs.YtdagdllomphidaaGreatDoor.dk
namespace Go.Proofs.YtdagdllomphidaaGreatDoor.dk
open _root_.Go.Proofs.Tryz Go Go.RowKit
theorem qmV{ρ:Operand→Value}{o:Oper}{w:World}{b:Nat}{s:qH}(x:Operand)(ho:o.op=.call { callee:=.builtin .len,args:=#[x],argTypes:=#[104] })(hx:ρ x=.map (some b))(h:xo w b s) :
    (execOp ρ o).run prog w=.ok (.value (.int .i64 (cnt s:Int))) w:=by
 simp[execOp,ho,resolve,invoke,builtin,hx,h.len o.type,Result.andThen]
theorem gu {ρ:Operand→Value}{o:Oper}{w:World}{b:Nat}{s:qH}(x y:Operand)(ho:o.op=.lookup 104 x y true)(hx:ρ x=.map (some b))(h:xo w b s)
    (k:Int) (hy:ρ y=.int .i64 k) (h0 : -9223372036854775808≤k) (h1:k≤9223372036854775807) :
    (execOp ρ o).run prog w=.ok (.value (.tuple #[fg ((look s k).getD zz),.bool (look s k).isSome])) w:=by
 simp[execOp,ho,hx,hy,(h.find k h0 h1).1,Result.andThen]
theorem qjs{ρ:Operand→Value}{o:Oper}{w:World}{b:Nat}{s:qH}(x y:Operand)(ho:o.op=.lookup 104 x y false)(hx:ρ x=.map (some b))(h:xo w b s)
    (k:Int) (hy:ρ y=.int .i64 k) (h0 : -9223372036854775808≤k) (h1:k≤9223372036854775807) :
    (execOp ρ o).run prog w=.ok (.value (fg ((look s k).getD zz))) w:=by
 simp[execOp,ho,hx,hy,(h.find k h0 h1).2,Result.andThen]
theorem np {ops:Array Oper}{rest:List Oper}{o:Oper}{a:Act}{w:World}{Q:Exit→Act→World→Prop}{b:Nat}{s:qH}(hg:o.guard=none)(x y z:Operand)(ho:o.op=.mapUpdate 104 x y z)(hx:a.eval x=.map (some b))(h:xo w b s)
    (k:Nat) (hy:a.eval y=.int .i64 (k:Int)) (v:Bt) (hz:a.eval z=fg v) (hk:k<s.length) (h1:s.length≤1024)
    (hK:∀w',xo w' b (put s k v)→w.mapTurned w' b→wpList prog ops Q rest (a.put o.dst undef) w'):wpList prog ops Q (o::rest) a w:=by
 refine wpList_plain hg fun K' hK'=>?_;obtain⟨w',hrun,r1,r2⟩:=h.store k v hk h1;unfold Oper.wp;simp[execOp,ho,hx,hy,hz,hrun,Result.andThen];exact hK' _ _ (hK w' r1 r2)
theorem uL {w w':World}{b:Nat}(h:w.mapTurned w' b):qy (fun k=>k=b) w w':=qy.qdi h.grown (fun _ e=>by injection e with e;exact e.symm)
theorem zy {ρ:Operand→Value}{o:Oper}{P:Program}(w:World)(t:TypeId)(c c':Array Value)(x y:Operand)(ho:o.op=.store t x y)(hx:ρ x=.pointer (some ⟨w.heap.size,0,none⟩))(hy:ρ y=.agg c')
    (hi:(P.info? t).map (·.size)=some c'.size) (hoc:c.size=c'.size) (h1:c'.all (·.oneCell')=true) :
    (execOp ρ o).run P (w.alloc (.cells c t))=.ok .skip (w.alloc (.cells c' t)):=by
 have hr:=run_storeAt_new (P:=P) w t c c' hi hoc h1;simp[execOp,ho,hx,hy,hr,Result.andThen]
theorem l6 (q:Bt):(Lib.byteCells q).toArray.all (·.oneCell')=true:=by
 rw[Array.all_eq_true'];intro u hu;exact Lib.byteCells_one q u (by simpa using hu)
theorem oN:(prog.info? 123).map (·.size)=some 32:=by kernel_rfl
theorem yN {P:Program}(w:World)(g o:Nat)(t ty:TypeId)(cs:Array Value)(xs:List Value)(fr:Nat × Nat)(d:TypeDesc)(hg:w.heap[g]?=some (.cells cs t fr))
    (hu:P.underlying ty=some d) (hd:(match d with | .struct _ | .array _ _=>true|_=>false)=true) (hi:(P.info? ty).map (·.size)=some xs.length) (hx:∀j u,xs[j]?=some u→cs[o+j]?=some u) :
    (loadVar ty ⟨g,o,none⟩).run P w=.ok (.agg xs.toArray) w:=by
 have hl:(loadCells ⟨g,o,none⟩ xs.length).run P w=.ok xs.toArray w :=
  run_loadCells_list (P:=P) w ⟨g,o,none⟩ xs (fun j v hv=>by
   rw[addr_add,cell_of_row w g (o+j) cs t fr hg];exact hx j v hv)
 cases hq:P.info? ty with
 | none=>simp[hq]at hi
 | some i =>
  have hs:i.size=xs.length:=by simpa[hq]using hi
  have hagg:(isAgg ty).run P w=.ok true w:=by
   unfold isAgg;rw[Sem.run_bind,run_underlying hu w];cases d <;> simp_all
  simp[loadVar,Sem.run_bind,hagg,sizeOf,typeInfo,hq,hs,hl]
theorem qI {ρ:Operand→Value}{o:Oper}{P:Program}{w:World}(ty:TypeId)(x:Operand)(ho:o.op=.load ty x)(g i:Nat)(hx:ρ x=.pointer (some ⟨g,i,none⟩))(t:TypeId)(cs:Array Value)(xs:List Value)(fr:Nat × Nat)(d:TypeDesc)
    (hg:w.heap[g]?=some (.cells cs t fr)) (hu:P.underlying ty=some d) (hd:(match d with | .struct _ | .array _ _=>true|_=>false)=true) (hi:(P.info? ty).map (·.size)=some xs.length) (hc:∀j u,xs[j]?=some u→cs[i+j]?=some u) :
    (execOp ρ o).run P w=.ok (.value (.agg xs.toArray)) w:=by
 simp only[execOp,ho,hx,Instr.loadAt,Instr.sureAddr,Sem.run_bind,Sem.run_pure,Result.andThen_ok,yN w g i t ty cs xs fr d hg hu hd hi hc]
section
variable {w:World} {p m:Nat} {v:Value} {d:DD} {own:Nat→Prop}
theorem ki {t:TypeId}{a b c e f g:Value}(h:qf w p t #[a,b,c,e,f,g]) :
    w.cell? ⟨p,0,none⟩=some a∧w.cell? ⟨p,1,none⟩=some b∧w.cell? ⟨p,2,none⟩=some c∧w.cell? ⟨p,3,none⟩=some e∧w.cell? ⟨p,4,none⟩=some f∧w.cell? ⟨p,5,none⟩=some g :=
 ⟨h.cell 0,h.cell 1,h.cell 2,h.cell 3,h.cell 4,h.cell 5⟩
theorem qbm(h:uK w own p m v d) :
    Calls prog 45 #[.pointer (some ⟨p,0,none⟩)] w fun e w'=>e=.returned (.int .i64 (d.n:Int))∧w=w':=by
 obtain⟨c0,c1,c2,c3,c4,c5⟩:=ki h.1;clear h c1 c2 c3 c4 c5;go_enter func45,ntmps45;go_wp2;go_ret;exact⟨rfl,rfl⟩
theorem qmW(h:uK w own p m v d) :
    Calls prog 99 #[.pointer (some ⟨p,0,none⟩)] w fun e w'=>e=.returned (.bool d.on)∧w=w':=by
 obtain⟨c0,c1,c2,c3,c4,c5⟩:=ki h.1;clear h c1 c2 c3 c0 c5;go_enter func99,ntmps99;go_wp2;go_ret;exact⟨rfl,rfl⟩
theorem kA (h:uK w own p m v d)(k:Int) :
    Calls prog 134 #[.pointer (some ⟨p,0,none⟩),.int .i64 k] w fun e w'=>e=.returned (.bool (d.has k))∧w=w':=by
 obtain⟨c0,c1,c2,c3,c4,c5⟩:=ki h.1;clear h c1 c2 c3 c4 c5;have H:Hid (d.has k=(decide (0≤k)&&decide (k<(d.n:Int)))):=rfl;generalize d.has k=q at *;generalize (d.n:Int)=n at *;by_cases h0:0≤k
 ·by_cases h1:k<n
  ·have hq:q=true:=by rw[H.out];simp[h0,h1]
   clear H;subst hq;go_enter func134,ntmps134;go_wp2;go_ret;exact⟨rfl,rfl⟩
  ·have hq:q=false:=by rw[H.out];simp[h1]
   have h1':n≤k:=by omega
   clear H;subst hq;go_enter func134,ntmps134;go_wp2;go_ret;exact⟨rfl,rfl⟩
 ·have hq:q=false:=by rw[H.out];simp[h0]
  have h0':k<0:=by omega
  clear H;subst hq;go_enter func134,ntmps134;go_wp2;go_ret;exact⟨rfl,rfl⟩
theorem uK.turn{w':World}{d':DD}(h:uK w own p m v d)(hb:d'.base=d.base)(hm:d'.more=d.more)
    (hk:qf w' p 107 #[.int .i64 (d'.n:Int),.int .i64 d'.room,.map (some m),v,.bool d'.on,.int .i64 d'.qp]) (hs:w.heap.size≤w'.heap.size) (hr:∀k,k<w.heap.size→k≠p→w'.heap[k]?=w.heap[k]?):uK w' own p m v d':=by
 obtain⟨hpm,hv⟩:=h.ne;obtain⟨h1,h2,h3,hp,hm',hvo,hl⟩:=h;refine⟨hk,?_,?_,hp,hm',hvo,fun k hk=>Nat.lt_of_lt_of_le (hl k hk) hs⟩
 ·have:d'.now=d.now:=by unfold DD.now;rw[hb,hm]
  rw[this];exact h2.of_block (hr _ (hl _ hm') (fun e=>hpm e.symm))
 ·rw[hb,hm];exact yg h3 (fun k hk=>hr k (hl k (hvo k hk)) (hv k hk).1)
theorem xC (w:World)(p i:Nat)(u:Value)(k:Nat)(h:k≠p):(w.setCell ⟨p,i,none⟩ u).heap[k]?=w.heap[k]? :=Below.heap_setCell _ _ _ _ h
theorem size_set(w:World)(p:Addr)(u:Value):(w.setCell p u).heap.size=w.heap.size:=by simp[World.setCell]
theorem qrd{most:Nat}(h:zG most w own p d) :
    Calls prog 20 #[.pointer (some ⟨p,0,none⟩)] w (xA most own p d.off (.tuple #[]) w):=by
 obtain⟨h0,m,v,h1⟩:=h;have H:=QH h1;have H0:=QH h0;obtain⟨c0,c1,c2,c3,c4,c5⟩:=ki h1.1;have f4:=h1.1.frozen 4;have f5:=h1.1.frozen 5;clear h1 h0;go_enter func20,ntmps20;go_wp2
 go_end0
 refine⟨rfl,own,⟨{ H0.out with qhQ:=Int.le_refl _,qhR:=(by show(0:Int)≤_;omega) },m,v,?_⟩,((qy.refl _ _).setCell _ _ (.inl H.out.2.2.2.1)).setCell _ _ (.inl H.out.2.2.2.1),vF.refl _ _⟩;refine H.out.turn (d':=d.off) rfl rfl ((H.out.1.qo 4 _).qo 5 _) (by simp[size_set]) (fun k _ hk=>?_);rw[xC _ _ _ _ _ hk,xC _ _ _ _ _ hk]
theorem oO {most:Nat}(h:zG most w own p d)(zU:d.on=true) :
    Calls prog 179 #[.pointer (some ⟨p,0,none⟩)] w (xA most own p d.oper (.bool d.oper.on) w):=by
 have hd0:=QH h;obtain⟨h0,m,v,h1⟩:=h;have H:=QH h1;have H0:=QH h0;have f5:=h1.1.frozen 5;obtain⟨c0,c1,c2,c3,c4,c5⟩:=ki h1.1;have b0:=h0.qhQ;have b1:=h0.qhR;rw[zU]at c4;clear h1 h0;by_cases e1:d.qp=1
 ·have hop:d.oper=d.off:=by unfold DD.oper;rw[if_pos e1]
  rw[hop];rw[e1]at c5;have hd1:zG most (w.setCell ⟨p,5,none⟩ (.int .i64 0)) own p { d with qp:=0 } :=
   ⟨{ H0.out with qhQ:=Int.le_refl _,qhR:=(by show(0:Int)≤_;omega) },m,v,H.out.turn (d':={ d with qp:=0 }) rfl rfl (H.out.1.qo 5 _) (by simp[size_set]) (fun k _ hk=>xC _ _ _ _ _ hk)⟩
  have qzx:=QH (qrd hd1);have E1:=QH e1;clear e1 hop hd1 b0 b1;go_enter func179,ntmps179;go_wp2_with (go_at_call 20;refine qzx.out.mono ?_);rintro e w2 ⟨rfl,jT,hd2,hb2,hg2⟩;obtain⟨_,m2,v2,h2⟩:=hd2;have HD2:Hid (zG most w2 jT p d.off):=⟨by assumption,m2,v2,h2⟩;obtain⟨g0,g1,g2,g3,g4,g5⟩:=ki h2.1;clear h2 qzx;go_wp2;go_ret;exact⟨rfl,jT,HD2.out,((qy.refl own w).setCell _ _ (.inl H.out.2.2.2.1)).trans hb2 (fun i h=>.inl h),fun k hk=>by
   rcases hg2 k hk with h|h
   ·exact .inl h
   ·rw[size_set]at h;exact .inr h⟩
 ·by_cases e2:1<d.qp
  ·have hop:d.oper={ d with qp:=d.qp-1 }:=by unfold DD.oper;rw[if_neg e1,if_pos e2]
   rw[hop];have e0:0<d.qp:=by omega
   have e3:((d.qp-1:Int) == 0)=false:=by rw[beq_eq_false_iff_ne];omega
   clear e1;go_enter func179,ntmps179;go_wp2;go_ret;refine⟨(by rw[zU];rfl),own,⟨{ H0.out with qhQ:=by simp only;omega,qhR:=by simp only;omega },m,v,?_⟩,(qy.refl _ _).setCell _ _ (.inl H.out.2.2.2.1),vF.refl _ _⟩;refine H.out.turn (d':={ d with qp:=d.qp-1 }) rfl rfl ?_ (by simp[size_set]) (fun k _ hk=>xC _ _ _ _ _ hk);exact H.out.1.qo 5 _
  ·have hop:d.oper=d:=by unfold DD.oper;rw[if_neg e1,if_neg e2]
   rw[hop];have e0:d.qp=0:=by omega
   rw[e0]at c5;clear e1 e2;have E0:=QH e0;clear e0 b0 b1;go_enter func179,ntmps179;go_wp2;go_ret;exact⟨(by rw[zU];rfl),own,hd0.out,qy.refl _ _,vF.refl _ _⟩
end
end Go.Proofs.YtdagdllomphidaaGreatDoor.dk
namespace Go.Proofs.YtdagdllomphidaaGreatDoor.dk
open _root_.Go.Proofs.Tryz Go Go.RowKit
def qrf (most n:Nat)(room:Int)(w:World)(e:Ending)(w':World):Prop :=
 ∃p own,e=.returned (.pointer (some ⟨p,0,none⟩))∧zG most w' own p (DD.new n room)∧Below w.heap.size w w'∧∀k,own k→w.heap.size≤k
theorem uM (most n:Nat)(room:Int)(h0:1≤n)(h1:n≤1024)(r0:0≤room)(r1:room≤9223372036854775807)(w:World) :
    Calls prog 27 #[.int .i64 (n:Int),.int .i64 room] w (qrf most n room w):=by
 have hmm:=@run_makeMap prog;have i0:¬ (n:Int)<1:=by omega
 have i1:¬ 1024<(n:Int):=by omega
 have i2:¬ room<0:=by omega
 go_enter func27,ntmps27;go_wp2;go_ret;refine⟨w.heap.size+1,fun k=>k=w.heap.size∨k=w.heap.size+1,rfl,⟨⟨?_,?_,r0,r1,Int.le_refl _,by simp[DD.new],Nat.zero_le _,fun _ h=>by simp[DD.new]at h,fun v h=>?_⟩,w.heap.size,.slice none 0 0,?_⟩,((Below.refl _ w).alloc (Nat.le_refl _) _).alloc (by simp) _,fun k h=>by omega⟩
 ·simpa[DD.n,DD.new]using h0
 ·simpa[DD.n,DD.new]using h1
 ·simp[DD.new]at h
 ·refine⟨?_,?_,⟨rfl,.inl ⟨rfl,rfl⟩⟩,.inr rfl,.inl rfl,fun k h=>by simp[Value.ownBlock]at h,fun k h=>by simp;omega⟩
  ·have e:(DD.new n room).n=n:=by simp[DD.n,DD.new]
   rw[e];exact heap_alloc2_new w _ _
  ·exact(xo.made w n).of_block (Below.heap_alloc _ _ _ (by simp))
def wD (r:Bt × Int)(w:World)(e:Ending)(w':World):Prop :=
 e=.returned (.tuple #[.string (str r.1),.int .i64 r.2])∧Below w.heap.size w w'
theorem wY (P:Bt)(b k:Nat)(t:TypeId)(w:World)(hk:P.length=k)(h:w.heap[b]?=some (.cells (Lib.byteCells P).toArray t (0,0))) :
    (convert 118 9 (.slice (some ⟨b,0,none⟩) k k)).run prog w=.ok (.string (str P)) w:=by
 subst hk;refine run_convert_bytes_back (P:=prog) w 118 9 5 ⟨b,0,none⟩ P.length P underlying118 underlying5 underlying9 ?_;intro j hj;rw[addr_add,Nat.zero_add,cell_of_row w b j _ _ _ h];simp[Lib.byteCells,hj]
section
variable {w:World} {p m:Nat} {v:Value} {d:DD} {own:Nat→Prop}
theorem qdj(h:uK w own p m v d)(zU:d.on=false)(k:Int) :
    Calls prog 89 #[.pointer (some ⟨p,0,none⟩),.int .i64 k] w (wD ([],6) w):=by
 obtain⟨c0,c1,c2,c3,c4,c5⟩:=ki h.1;rw[zU]at c4;clear h c1 c2 c3 c0 c5;go_enter func89,ntmps89;go_wp2;go_ret2;exact⟨rfl,Below.refl _ _⟩
theorem qdk(h:uK w own p m v d)(zU:d.on=true)(k:Int)(hh:d.has k=false) :
    Calls prog 89 #[.pointer (some ⟨p,0,none⟩),.int .i64 k] w (wD ([],2) w):=by
 have hhas:=kA h k;rw[hh]at hhas;have HH:=QH hhas;obtain⟨c0,c1,c2,c3,c4,c5⟩:=ki h.1;rw[zU]at c4;clear h c1 c2 c3 c0 c5 hhas zU hh;go_enter func89,ntmps89;go_wp2_with (go_at_call 134;refine HH.out.mono ?_;rintro e w' ⟨rfl,rfl⟩);go_ret2;exact⟨rfl,Below.refl _ _⟩
theorem qhS{most:Nat}(h0:d.ok most)(h:uK w own p m v d)(zU:d.on=true)(k:Int)(hh:d.has k=true) :
    Calls prog 89 #[.pointer (some ⟨p,0,none⟩),.int .i64 k] w (wD ((look d.now k).getD zz,0) w):=by
 have hhas:=kA h k;rw[hh]at hhas;have HH:=QH hhas;have HM:=QH h.2.1;obtain⟨c0,c1,c2,c3,c4,c5⟩:=ki h.1;rw[zU]at c4;have hk0:0≤k∧k<(d.n:Int):=by simpa[DD.has]using hh
 have hn1:=h0.n1;have hlen:((look d.now k).getD zz).length=32:=by
  cases hx:look d.now k with
  | none=>exact qZ
  | some u=>exact h0.qaf hx
 generalize hq:(look d.now k).getD zz=q at *;have HQ:=QH hq;have HK:=QH hk0;have HN:=QH hn1;have qaj:=wY q w.heap.size 32 123 (w.alloc (.cells (Lib.byteCells q).toArray 123)) hlen (heap_alloc_new w _);have qt1:(Lib.byteCells q).toArray.size=32:=by simp[Lib.byteCells,hlen]
 have HL:=QH qt1;have HC:=QH qaj;clear h c1 c3 c0 c5 hhas zU hh hq hk0 hn1 hlen qaj qt1 h0;go_enter func89,ntmps89;go_wp2_with (first|(go_at_call 134;refine HH.out.mono ?_;rintro e w' ⟨rfl,rfl⟩)|(at_lookup;refine qg rfl (qjs _ _ rfl rfl HM.out k rfl (by have:=HK.out;omega) (by have:=HK.out;have:=HN.out;omega)) ?_;rw[HQ.out])|(refine wpList_skip rfl (zy w 123 _ _ (.tmp 6) (.tmp 26) rfl rfl rfl (by rw[HL.out];exact oN) (by rw[HL.out];rfl) (l6 q)) ?_;have qaj:=HC.out));go_ret2;exact⟨rfl,(Below.refl _ _).alloc (Nat.le_refl _) _⟩
end
end Go.Proofs.YtdagdllomphidaaGreatDoor.dk
namespace Go.Proofs.YtdagdllomphidaaGreatDoor.dk
open _root_.Go.Proofs.Tryz Go Go.RowKit
def yw (w:World)(a:Nat)(acc:List Int):Prop :=
 ∃D:D1,w.ownsMap prog 3 unitElem a (Maps.size D) D∧(∀k:Int,Maps.has D (.int .i64 k)=acc.contains k)∧Maps.size D=acc.length
def ya (acc:List Int)(x:Int):List Int:=if acc.contains x then acc else acc++[x]
theorem yw.lt{w:World}{a:Nat}{acc:List Int}(h:yw w a acc):a<w.heap.size:=by
 obtain⟨D,h1,_⟩:=h;exact h1.lt
theorem yw.of_block{w w':World}{m:Nat}{s:List Int}(h:yw w m s)(hb:w'.heap[m]?=w.heap[m]?):yw w' m s:=by
 obtain⟨D,⟨es,clock,h1,h2⟩,h3⟩:=h;exact⟨D,⟨es,clock,hb.trans h1,h2⟩,h3⟩
theorem yw.made(w:World):yw (w.alloc (.map #[] 0)) w.heap.size [] :=
 ⟨.map [],World.ownsMap_made w prog 3 unitElem,fun _=>rfl,rfl⟩
theorem yw.len{w:World}{a:Nat}{acc:List Int}(h:yw w a acc)(ty:TypeId):(Builtin.len_ #[199] ty #[.map (some a)]).run prog w=.ok (.int .i64 (acc.length:Int)) w:=by
 obtain⟨D,hown,_,hc⟩:=h;rw[← hc];exact hown.len underlying199 ty
theorem yw.store{w:World}{a:Nat}{acc:List Int}(h:yw w a acc)(k:Int)(k0 : -9223372036854775808≤k)(k1:k≤9223372036854775807)(hl:acc.length<maxLen) :
    ∃w',(Instr.mapUpdate 199 (.map (some a)) (.int .i64 k) (.agg #[])).run prog w=.ok () w'∧yw w' a (ya acc k)∧w.mapTurned w' a:=by
 obtain⟨D,hown,hh,hc⟩:=h;have hkey:=Go.Maps.keyOf_int_mk (P:=prog) (k:=3) underlying3 (qrc k k0 k1);have hti:=hown.tidy keyed;obtain⟨w',hrun,r1,r2⟩:=hown.store keyed underlying199 (by omega) hkey unitElem_mk;refine⟨w',hrun,⟨_,iZ r1,?_,?_⟩,r2⟩
 ·intro j;by_cases e:j=k
  ·subst e;rw[Maps.has_put_same hti.isMap (qfN _)];unfold ya;split
   ·exact(by assumption:acc.contains j=true).symm
   ·simp
  ·rw[Maps.has_put_other (oM e),hh];unfold ya;split
   ·rfl
   ·simp[e]
 ·rw[Maps.size_put hti,hh,hc];unfold ya;split <;> simp
theorem fh {ρ:Operand→Value}{o:Oper}{w:World}{b:Nat}{s:List Int}(x:Operand)(ho:o.op=.call { callee:=.builtin .len,args:=#[x],argTypes:=#[199] })(hx:ρ x=.map (some b))(h:yw w b s) :
    (execOp ρ o).run prog w=.ok (.value (.int .i64 (s.length:Int))) w:=by
 simp[execOp,ho,resolve,invoke,builtin,hx,h.len o.type,Result.andThen]
theorem wE {ops:Array Oper}{rest:List Oper}{o:Oper}{a:Act}{w:World}{Q:Exit→Act→World→Prop}{b:Nat}{s:List Int}(hg:o.guard=none)(x y z:Operand)(ho:o.op=.mapUpdate 199 x y z)(hx:a.eval x=.map (some b))(h:yw w b s)
    (k:Int) (hy:a.eval y=.int .i64 k) (hz:a.eval z=.agg #[]) (k0 : -9223372036854775808≤k) (k1:k≤9223372036854775807) (hl:s.length<maxLen)
    (hK:∀w',yw w' b (ya s k)→w.mapTurned w' b→wpList prog ops Q rest (a.put o.dst undef) w'):wpList prog ops Q (o::rest) a w:=by
 refine wpList_plain hg fun K' hK'=>?_;obtain⟨w',hrun,r1,r2⟩:=h.store k k0 k1 hl;unfold Oper.wp;simp[execOp,ho,hx,hy,hz,hrun,Result.andThen];exact hK' _ _ (hK w' r1 r2)
structure Env(w:World)(p B1 B4 B3 a:Nat)(free:Int)(acc:List Int):Prop where
 b1:qf w B1 24 #[.pointer (some ⟨p,0,none⟩)]
 b4:qf w B4 199 #[.map (some a)]
 b3:qf w B3 3 #[.int .i64 free]
 qo:yw w a acc
def ask (d:DD)(acc:List Int)(x:Int):Bool × List Int :=
 if d.has x=false then(false,acc)
 else if (look d.now x).isSome then(true,acc)
 else(decide (((ya acc x).length:Int)≤d.room-(d.used:Int)),ya acc x)
def nK (r:Bool × List Int)(a:Nat)(w:World)(e:Ending)(w':World):Prop :=
 e=.returned (.bool r.1)∧yw w' a r.2∧qy (fun k=>k=a) w w'
section
variable {w:World} {p m:Nat} {v:Value} {d:DD} {own:Nat→Prop} {B1 B4 B3 a:Nat} {acc:List Int}
theorem qrg(h:uK w own p m v d)(he:Env w p B1 B4 B3 a (d.room-(d.used:Int)) acc)(x:Int)(hh:d.has x=false) :
    Calls prog 218 #[.int .i64 x,.pointer (some ⟨B1,0,none⟩),.pointer (some ⟨B4,0,none⟩),.pointer (some ⟨B3,0,none⟩)] w (nK (false,acc) a w):=by
 have hhas:=kA h x;rw[hh]at hhas;have HH:=QH hhas;have HE:=QH he;have g1:w.cell? ⟨B1,0,none⟩=some (.pointer (some ⟨p,0,none⟩)):=he.b1.cell 0;clear h he hhas hh;go_enter func218,ntmps218;go_wp2_with (go_at_call 134;refine HH.out.mono ?_;rintro e w' ⟨rfl,rfl⟩);go_ret;exact⟨rfl,HE.out.qo,qy.refl _ _⟩
theorem qrh{most:Nat}(h0:d.ok most)(h:uK w own p m v d)(he:Env w p B1 B4 B3 a (d.room-(d.used:Int)) acc)(x:Int)(hh:d.has x=true)(hs:(look d.now x).isSome=true) :
    Calls prog 218 #[.int .i64 x,.pointer (some ⟨B1,0,none⟩),.pointer (some ⟨B4,0,none⟩),.pointer (some ⟨B3,0,none⟩)] w (nK (true,acc) a w):=by
 have hhas:=kA h x;rw[hh]at hhas;have HH:=QH hhas;have HE:=QH he;have HM:=QH h.2.1;have g1:w.cell? ⟨B1,0,none⟩=some (.pointer (some ⟨p,0,none⟩)):=he.b1.cell 0;have c2:=(ki h.1).2.2.1;have hk0:0≤x∧x<(d.n:Int):=by simpa[DD.has]using hh
 have HK:=QH hk0;have HN:=QH h0.n1;have hlen:(Lib.byteCells ((look d.now x).getD zz)).toArray.size=32:=by
  simp only[List.size_toArray,Lib.byteCells_length];cases hx:look d.now x with
  | none=>exact qZ
  | some u=>exact h0.qaf hx
 have HL:=QH hlen;have HS:=QH hs;have hal:=fun c=>yw.of_block he.qo (Below.heap_alloc w (.cells c 123) a he.qo.lt);have HA:=QH hal;clear h he hhas hh hk0 hlen hs hal h0;go_enter func218,ntmps218;go_wp2_with (first|(go_at_call 134;refine HH.out.mono ?_;rintro e w' ⟨rfl,rfl⟩)|(at_lookup;refine qg rfl (gu _ _ rfl rfl HM.out x rfl (by have:=HK.out;omega) (by have:=HK.out;have:=HN.out;omega)) ?_;rw[HS.out])|(refine wpList_skip rfl (zy w 123 _ _ (.tmp 6) (.tmp 19) rfl rfl rfl (by rw[HL.out];exact oN) (by rw[HL.out];rfl) (l6 _)) ?_));go_ret;exact⟨rfl,HA.out _,(qy.refl _ _).alloc _⟩
theorem qri{most:Nat}(h0:d.ok most)(h:uK w own p m v d)(he:Env w p B1 B4 B3 a (d.room-(d.used:Int)) acc)(x:Int)(hh:d.has x=true)(hs:(look d.now x).isSome=false)(hl:acc.length<maxLen) :
    Calls prog 218 #[.int .i64 x,.pointer (some ⟨B1,0,none⟩),.pointer (some ⟨B4,0,none⟩),.pointer (some ⟨B3,0,none⟩)] w (nK (decide (((ya acc x).length:Int)≤d.room-(d.used:Int)),ya acc x) a w):=by
 have hhas:=kA h x;rw[hh]at hhas;have HH:=QH hhas;have HE:=QH he;have HM:=QH h.2.1;have g1:w.cell? ⟨B1,0,none⟩=some (.pointer (some ⟨p,0,none⟩)):=he.b1.cell 0;have g4:w.cell? ⟨B4,0,none⟩=some (.map (some a)):=he.b4.cell 0;have g3:w.cell? ⟨B3,0,none⟩=some (.int .i64 (d.room-(d.used:Int))):=he.b3.cell 0;have l4:=he.b4.lt;have l3:=he.b3.lt;have c2:=(ki h.1).2.2.1;have hk0:0≤x∧x<(d.n:Int):=by simpa[DD.has]using hh
 have HK:=QH hk0;have HN:=QH h0.n1;have hlen:(Lib.byteCells ((look d.now x).getD zz)).toArray.size=32:=by
  simp only[List.size_toArray,Lib.byteCells_length];cases hx:look d.now x with
  | none=>exact qZ
  | some u=>exact h0.qaf hx
 have HL:=QH hlen;have HS:=QH hs;have hal:=fun c=>yw.of_block he.qo (Below.heap_alloc w (.cells c 123) a he.qo.lt);have HA:=QH hal;have HLl:=QH hl;have n43:B4≠a:=by
  rintro rfl;obtain⟨D,⟨es,clock,q,_⟩,_⟩:=he.qo;have:=he.b4;unfold qf at this;rw[q]at this;cases this
 have n33:B3≠a:=by
  rintro rfl;obtain⟨D,⟨es,clock,q,_⟩,_⟩:=he.qo;have:=he.b3;unfold qf at this;rw[q]at this;cases this
 clear h he hhas hh hk0 hlen hs hal h0 hl;generalize qzy:d.room-(d.used:Int)=free at *;clear qzy;go_enter func218,ntmps218;go_wp2_with (first|(go_at_call 134;refine HH.out.mono ?_;rintro e w' ⟨rfl,rfl⟩)|(at_lookup;refine qg rfl (gu _ _ rfl rfl HM.out x rfl (by have:=HK.out;omega) (by have:=HK.out;have:=HN.out;omega)) ?_;rw[HS.out])|(refine wpList_skip rfl (zy w 123 _ _ (.tmp 6) (.tmp 19) rfl rfl rfl (by rw[HL.out];exact oN) (by rw[HL.out];rfl) (l6 _)) ?_)|(at_mapUpdate;refine wE rfl _ _ _ rfl rfl (HA.out _) x rfl rfl (by have:=HK.out;omega) (by have:=HK.out;have:=HN.out;omega) HLl.out ?_;intro w2 hs2 ck;have uI:=QH hs2;have qB:=QH (((qy.refl (fun k=>k=a) w).alloc _).trans (uL ck) (fun _ h=>.inl h));have q4:=((uL ck).block B4 (by simp;omega) n43).trans (Below.heap_alloc w _ B4 l4);have q3:=((uL ck).block B3 (by simp;omega) n33).trans (Below.heap_alloc w _ B3 l3);have k4:=(World.cell?_of_block (a:=⟨B4,0,none⟩) q4).trans g4;have k3:=(World.cell?_of_block (a:=⟨B3,0,none⟩) q3).trans g3;clear hs2 ck q4 q3)|(at_len;refine qg rfl (fh _ rfl rfl uI.out) ?_));go_ret;exact⟨rfl,uI.out,qB.out⟩
end
end Go.Proofs.YtdagdllomphidaaGreatDoor.dk
namespace Go.Proofs.YtdagdllomphidaaGreatDoor.dk
open _root_.Go.Proofs.Tryz Go Go.RowKit
structure qzz(cs:Array Value)(x:Nat × Bt × Bt × Bool):Prop where
 size:cs.size=66
 at_:cs[0]?=some (.int .i64 (x.1:Int))
 data:∀j u,(Lib.byteCells x.2.1)[j]?=some u→cs[1+j]?=some u
 before:∀j u,(Lib.byteCells x.2.2.1)[j]?=some u→cs[33+j]?=some u
 written:cs[65]?=some (.bool x.2.2.2)
theorem rowOf(x:Nat × Bt × Bt × Bool)(h1:x.2.1.length=32)(h2:x.2.2.1.length=32):qzz (qj x).toArray x:=by
 have e1:(Lib.byteCells x.2.1).length=32:=by rw[Lib.byteCells_length,h1]
 have e2:(Lib.byteCells x.2.2.1).length=32:=by rw[Lib.byteCells_length,h2]
 refine⟨by simp[qj,e1,e2],rfl,?_,?_,?_⟩
 ·intro j u hu;have hj:j<32:=by rw[← e1];exact(List.getElem?_eq_some_iff.1 hu).1
  simp only[List.getElem?_toArray,qj,Nat.add_comm 1 j,List.getElem?_cons_succ];rw[List.getElem?_append_left (by omega)];exact hu
 ·intro j u hu;have hj:j<32:=by rw[← e2];exact(List.getElem?_eq_some_iff.1 hu).1
  simp only[List.getElem?_toArray,qj,show 33+j=(32+j)+1 by omega,List.getElem?_cons_succ];rw[List.getElem?_append_right (by omega),e1,List.getElem?_append_left (by omega),show 32+j-32=j by omega];exact hu
 ·simp only[List.getElem?_toArray,qj,show 65=64+1 from rfl,List.getElem?_cons_succ];rw[List.getElem?_append_right (by omega),e1,List.getElem?_append_right (by omega),e2];rfl
section
variable {w:World} {p m:Nat}
end
end Go.Proofs.YtdagdllomphidaaGreatDoor.dk

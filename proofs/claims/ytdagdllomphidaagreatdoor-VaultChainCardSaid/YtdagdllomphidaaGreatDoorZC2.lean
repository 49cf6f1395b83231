/- MgTake, MgLay, MgSame, MgChk, MtAbove, ImRefI, ImRefC, MtChk, MgCk, MgPut, WiRefP, MtNums, MtGdB, MtSize, SlotsP, MtEnc, MgEnc, MtProg, DkPure, DkMap, DkMem, DkOps, DkEasy, DkNew, DkFits, DkLose. -/
import Derived.Test.YtdagdllomphidaaGreatDoorZC1
import Derived.Laws.EntriesVeiled
import Derived.Lib.QuietBelow
import Derived.Laws.AppendOwnNone
import Derived.Lib.BufferWrite
set_option linter.unusedVariables false
set_option linter.unusedSimpArgs false
set_option maxHeartbeats 30000000
set_option maxRecDepth 100000
namespace Go.Proofs.YtdagdllomphidaaGreatDoor.mt.pg
open _root_.Go.Proofs.Tryz Go Go.RowKit ib wi im mt
def mZ (v0 v1:Value):Array Value:=#[v0,v1,.int .u64 0,.int .u64 0,.int .u64 0,.int .u64 0,.int .i64 0,.int .i64 0,.slice none 0 0]
structure TK(w W:World)(gR gm kb rb pb c b:Nat)(s:St)(v0 v1:Value)(l:List Int)(xs:List cj):Prop where
 rd:Rd w c s W
 env:fS W kb rb pb c b
 res:qf W gR 93 (mZ (.slice none 0 0) (.slice none 0 0))
 m:qf W gm 93 (mZ v0 v1)
 live:zv W w.heap.size v0 l
 row:gH W w.heap.size v1 xs
 rn:w.heap.size≤gR
 gn:gR<gm
section
variable {w W W':World} {gR gm kb rb pb c b:Nat} {s s':St} {v0 v1:Value} {l:List Int} {xs:List cj}
theorem TK.next(h:TK w W gR gm kb rb pb c b s v0 v1 l xs)(hr:Rd W c s' W'):TK w W' gR gm kb rb pb c b s' v0 v1 l xs :=
 ⟨h.rd.trans hr,h.env.rd h.rd.ps.blk hr,hr.blk h.res h.rd.ps.blk (by decide),hr.blk h.m h.rd.ps.blk (by decide),aQ h.live (hr.kp h.rd.ps) (by decide),h.row.kp (hr.kp h.rd.ps) (by decide) (by decide),h.rn,h.gn⟩
theorem fS.kp{kb rb pb c b:Nat}(h:fS W kb rb pb c b)(hk:Kp 93 W W'):fS W' kb rb pb c b:=⟨⟨hk _ _ _ (by decide) h.e.k,hk _ _ _ (by decide) h.e.r⟩,hk _ _ _ (by decide) h.p⟩
theorem TK.q3u{l':List Int}(h:TK w W gR gm kb rb pb c b s v0 v1 l xs)(v:Value)(hv:zv W w.heap.size v l'):TK w (W.setCell ⟨gm,0,none⟩ v) gR gm kb rb pb c b s v v1 l' xs:=by
 have hk:=Kp.dm 0 v h.m;have:=h.rn;have:=h.gn;exact⟨h.rd.set h.m (by omega) (by decide) (by decide) 0 v,h.env.kp hk,h.res.of_block (qz _ _ _ _ _ (by omega)),h.m.qo 0 v,aQ hv hk (by decide),h.row.kp hk (by decide) (by decide),h.rn,h.gn⟩
theorem TK.q3v{xs':List cj}(h:TK w W gR gm kb rb pb c b s v0 v1 l xs)(v:Value)(hv:gH W w.heap.size v xs'):TK w (W.setCell ⟨gm,1,none⟩ v) gR gm kb rb pb c b s v0 v l xs':=by
 have hk:=Kp.dm 1 v h.m;have:=h.rn;have:=h.gn;exact⟨h.rd.set h.m (by omega) (by decide) (by decide) 1 v,h.env.kp hk,h.res.of_block (qz _ _ _ _ _ (by omega)),h.m.qo 1 v,aQ h.live hk (by decide),hv.kp hk (by decide) (by decide),h.rn,h.gn⟩
end
theorem qpt{w W:World}{b c n g:Nat}{s:St}{xs:List cj}{B:Nat}(h:Sn b c n g s w n xs W)(hg:B≤g)(hB:B≤w.heap.size)(hn:n≤1000):gH W B (.slice (some ⟨g,0,none⟩) n n) xs:=by
 have hr:=h.row;rw[Nat.sub_self,List.replicate_zero,List.append_nil]at hr;have hl:=h.len;refine⟨⟨by rw[yh],.inr ⟨g,n,(qY xs).toArray,by rw[hl],hg,hr,by omega,by unfold maxLen;omega,by rw[List.size_toArray,yh,hl],?_⟩⟩,fun x hx=>qkW (h.ql x hx) hB⟩;rw[List.take_of_length_le (by rw[yh];omega)]
theorem qhO{a W:World}{c gm:Nat}{s:St}{cs:Array Value}{v:Value}{t:Tk}(h:Rd a c s W)(hm:qf W gm 93 cs)(hn:a.heap.size≤gm):Rd a c s (xX W gm v t):=by
 have go:∀(k:Nat) (u:Value) {W':World},(Rd a c s W'∧∃cs,qf W' gm 93 cs)→(Rd a c s (W'.setCell ⟨gm,k,none⟩ u)∧∃cs,qf (W'.setCell ⟨gm,k,none⟩ u) gm 93 cs):=fun k u W' ⟨h1,cs,h2⟩=>⟨h1.set h2 hn (by decide) (by decide) k u,_,h2.qo k u⟩;exact(go 8 v (go 7 _ (go 6 _ (go 5 _ (go 4 _ (go 3 _ (go 2 _ ⟨h,cs,hm⟩))))))).1
theorem qhP{W:World}{g:Nat}{v:Value}{t:Tk}{cs:Array Value}(h:qf W g 93 cs):Kp 93 W (xX W g v t):=by
 have go:∀(k:Nat) (u:Value) {W':World},Kp 93 W W'∧(∃cs,qf W' g 93 cs)→Kp 93 W (W'.setCell ⟨g,k,none⟩ u)∧(∃cs,qf (W'.setCell ⟨g,k,none⟩ u) g 93 cs):=fun k u W' ⟨h1,cs,h2⟩ =>
  ⟨h1.trans (Kp.dm k u h2),_,h2.qo k u⟩
 exact(go 8 v (go 7 _ (go 6 _ (go 5 _ (go 4 _ (go 3 _ (go 2 _ ⟨Kp.refl _ _,_,h⟩))))))).1
theorem bA {W:World}{g:Nat}{v0 v1 v:Value}{t:Tk}(h:qf W g 93 (mZ v0 v1)):qf (xX W g v t) g 93 (mC v0 v1 v t):=by
 have h9:=((((((h.qo 2 (.int .u64 (t.base.1:Int))).qo 3 (.int .u64 (t.base.2:Int))).qo 4 (.int .u64 (t.target.1:Int))).qo 5 (.int .u64 (t.target.2:Int))).qo 6 (.int .i64 t.next)).qo 7 (.int .i64 t.all)).qo 8 v;simp only[mZ,List.setIfInBounds_toArray,List.set_cons_succ,List.set_cons_zero]at h9;exact h9
theorem qeA{W:World}{g j:Nat}{v:Value}{t:Tk}(hj:j≠g):(xX W g v t).heap[j]?=W.heap[j]? :=by
 unfold xX;rw[qz _ _ _ _ _ hj,qz _ _ _ _ _ hj,qz _ _ _ _ _ hj,qz _ _ _ _ _ hj,qz _ _ _ _ _ hj,qz _ _ _ _ _ hj,qz _ _ _ _ _ hj]
structure Fin(w W:World)(gR gm c:Nat)(v0 v1 v2:Value)(m:Mt):Prop where
 but:qx (Tc c) w W
 res:qf W gR 93 (mZ (.slice none 0 0) (.slice none 0 0))
 mm:qf W gm 93 (mC v0 v1 v2 m.tok)
 at_:∃xs,zv W w.heap.size v0 m.live∧gH W w.heap.size v1 xs∧zv W w.heap.size v2 m.tok.ql∧xs.map (·.1)=m.qa
 ok:qbX m.live m.qa∧lv m.tok
 rn:w.heap.size≤gR
structure Own(w:World)(B:Nat)(v0 v1 v2:Value)(m:Mt):Prop where
 at_:∃xs,zv w B v0 m.live∧gH w B v1 xs∧zv w B v2 m.tok.ql∧xs.map (·.1)=m.qa
 ok:qbX m.live m.qa∧lv m.tok
theorem Own.kp{w w':World}{B:Nat}{v0 v1 v2:Value}{m:Mt}{r:TypeId}(h:Own w B v0 v1 v2 m)(hk:Kp r w w')(h1:145≠r)(h2:3≠r):Own w' B v0 v1 v2 m:=by
 obtain⟨xs,a,b,c,d⟩:=h.at_;exact⟨⟨xs,aQ a hk h2,b.kp hk h1 h2,aQ c hk h2,d⟩,h.ok⟩
theorem Own.mt{w:World}{B:Nat}{v0 v1 v2:Value}{m:Mt}(h:Own w B v0 v1 v2 m):qag w (.agg (mC v0 v1 v2 m.tok)) m:=by
 obtain⟨xs,a,b,c,d⟩:=h.at_;have:=qps a b c (by rw[d];exact h.ok.1) h.ok.2;rw[d]at this;exact this
def qrI (c:Nat)(s:St)(w:World)(e:Ending)(w':World):Prop:=∃v0 v1 v2,e=.returned (.agg (mC v0 v1 v2 (mP s).tok))∧Own w' w.heap.size v0 v1 v2 (mP s)∧qx (Tc c) w w'
theorem Fin.done{w W:World}{gR gm c:Nat}{v0 v1 v2:Value}{m:Mt}(h:Fin w W gR gm c v0 v1 v2 m):qf (xG W gR v0 v1 v2 m.tok) gR 93 (mC v0 v1 v2 m.tok)∧Own (xG W gR v0 v1 v2 m.tok) w.heap.size v0 v1 v2 m∧qx (Tc c) w (xG W gR v0 v1 v2 m.tok):=by
 have hk:=qbY (v0:=v0) (v1:=v1) (v2:=v2) (t:=m.tok) h.res;obtain⟨xs,h1,h2,h3,h4⟩:=h.at_;have hr:qf W gR 93 (mC nlS nlS nlS zI):=h.res;have ha:Own (xG W gR v0 v1 v2 m.tok) w.heap.size v0 v1 v2 m:=Own.kp ⟨h.at_,h.ok⟩ hk (by decide) (by decide);have hb:qx (Tc c) w (xG W gR v0 v1 v2 m.tok):=by
  have go:∀(k:Nat) (u:Value) {W':World},qx (Tc c) w W'→qx (Tc c) w (W'.setCell ⟨gR,k,none⟩ u):=fun k u W' h1=>h1.setCell _ _ (.inr h.rn);exact go 8 _ (go 7 _ (go 6 _ (go 5 _ (go 4 _ (go 3 _ (go 2 _ (go 1 _ (go 0 _ h.but))))))))
 exact⟨sJ hr,ha,hb⟩
theorem qg7{W:World}{g:Nat}{v0 v1 v2:Value}{t:Tk}(h:qf W g 93 (mC v0 v1 v2 t)):(loadVar 93 ⟨g,0,none⟩).run prog W=.ok (.agg (mC v0 v1 v2 t)) W :=
 run_loadVar_row W g 93 93 _ (0,0) _ h underlying93 rfl (by kernel_rfl)
theorem ql0{W:World}{g:Nat}{v0 v1 v2:Value}{t:Tk}(h:qf W g 93 (mC v0 v1 v2 t))(tm:Array Value)(hp:tm.getD 2 undef=.pointer (some ⟨g,0,none⟩)) :
    (results Tryz.f91 tm).run prog W=.ok (.agg (mC v0 v1 v2 t)) W:=by
 have hl:=qg7 h;generalize mC v0 v1 v2 t=X at *;exact zq results91 tm _ _ ⟨g,0,none⟩ _ hp hl
theorem qbZ{w WE:World}{gR c:Nat}{s:St}{v0 v1 v2:Value}{m:Mt}(a:Act)(ha:a.defers=[])(hp:a.tmps.getD 2 undef=.pointer (some ⟨gR,0,none⟩))(hm:mP s=m)
    (h:qf WE gR 93 (mC v0 v1 v2 m.tok)∧Own WE w.heap.size v0 v1 v2 m∧qx (Tc c) w WE):bodyPost prog Tryz.f91 (qrI c s w) .ret a WE :=
 bodyPost_ret (ql0 h.1 a.tmps hp) ha ⟨v0,v1,v2,by rw[hm],by rw[hm];exact h.2.1,h.2.2⟩
theorem yV {w:World}{c:Nat}{s:St}(h:PS w c s):Calls prog 91 #[ptr c] w (qrI c s w):=by
 have HP0:=QH h;have hb1:=(Below.refl w.heap.size w).alloc (Nat.le_refl _) (.cells #[ptr c] 161);have hr1:Rd w c s (w.alloc (.cells #[ptr c] 161)):=⟨qx.of_below hb1,h.below hb1⟩;have ha1:=qf.new w 161 #[ptr c];obtain⟨W1,hW1⟩:=QE (w.alloc (.cells #[ptr c] 161));rw[hW1]at hr1 ha1 hb1;have hb2:=(Below.refl W1.heap.size W1).alloc (Nat.le_refl _) (.cells (mZ (.slice none 0 0) (.slice none 0 0)) 93);have hr2:=hr1.new hb2;have ha2:=qf.new W1 93 (mZ (.slice none 0 0) (.slice none 0 0));obtain⟨W2,hW2⟩:=QE (W1.alloc (.cells (mZ (.slice none 0 0) (.slice none 0 0)) 93));rw[hW2]at hr2 ha2 hb2;have jA:=QH hr2;have qy:=QH (ha1.below hb2);have ai:=QH ha2;have HRN:Hid (w.heap.size≤W1.heap.size):=hb1.size;obtain⟨gR,hgR⟩:=QE W1.heap.size;rw[hgR]at ai HRN;obtain⟨rb,hrb⟩:=QE w.heap.size;have HRB:=QH hrb;have hB2:=qy.out;rw[hrb]at hB2;have HX2:=QH hB2;have r0:=hB2.cell 0;simp only[QA,QB,QC]at r0;have hlr:=hB2.lt;clear h hb1 hr1 ha1 hb2 hr2 ha2 hB2 qy;unfold mZ at hW2;go_enter func91,ntmps91;go_upto_region 1 with fail;try rw[hrb]
 try rw[hW1]
 try rw[hW2]
 try rw[hgR]
 clear hW1 hW2 hgR hrb;go_wp2_with fail;refine(dp jA.out.ps 8 8 rfl (by omega)).mono ?_;rintro e W3 ⟨rfl,hq⟩;have qtD:=jA.out.trans hq;have hA3:=hq.blk ai.out jA.out.ps.blk (by decide);have hX3:=hq.blk HX2.out jA.out.ps.blk (by decide);clear hq ai HX2 r0 hlr jA;have hbb:=fO 8 s;obtain⟨b,hbE⟩:=QE ((kF 8 s).1);rw[hbE]at hbb ⊢;have gp:=QH hbE;obtain⟨s1,hs1⟩:=QE ((kF 8 s).2);rw[hs1]at qtD;have av:=QH hs1;have HBB:=QH hbb;clear hs1 hbE hbb;have hb4:=(Below.refl W3.heap.size W3).alloc (Nat.le_refl _) (.cells #[.int .i64 (b:Int)] 3);have hK4:=qf.new W3 3 #[.int .i64 (b:Int)];obtain⟨W4,rI⟩:=QE (W3.alloc (.cells #[.int .i64 (b:Int)] 3));rw[rI]at hb4 hK4;obtain⟨kb,hkb⟩:=QE W3.heap.size;rw[hkb]at hK4;have qxy:=QH (qtD.new hb4);have fT:=QH (hA3.below hb4);have HX4:=QH (hX3.below hb4);have lx:=QH hK4;clear qtD hA3 hX3 hb4 hK4;go_upto_region 2 with fail;try rw[hkb]
 try rw[rI]
 clear rI hkb;have hb5:=(Below.refl W4.heap.size W4).alloc (Nat.le_refl _) (.cells #[plF kb rb] 209);have hP5:=qf.new W4 209 #[plF kb rb];obtain⟨W5,fD⟩:=QE (W4.alloc (.cells #[plF kb rb] 209));rw[fD]at hb5 hP5;obtain⟨pb,hpb⟩:=QE W4.heap.size;rw[hpb]at hP5;have qxz:=QH (qxy.out.new hb5);have HA5:=QH (fT.out.below hb5);have HE5:Hid (fS W5 kb rb pb c b):=⟨⟨lx.out.below hb5,HX4.out.below hb5⟩,hP5⟩;clear qxy fT HX4 lx hb5 hP5;go_upto_region 3 with fail;try rw[hpb]
 try rw[fD]
 clear fD hpb;have kG:=(Below.refl W5.heap.size W5).alloc (Nat.le_refl _) (.cells (mZ (.slice none 0 0) (.slice none 0 0)) 93);have hM6:=qf.new W5 93 (mZ (.slice none 0 0) (.slice none 0 0));obtain⟨W6,hW6⟩:=QE (W5.alloc (.cells (mZ (.slice none 0 0) (.slice none 0 0)) 93));rw[hW6]at kG hM6;have HGN:Hid (gR<W5.heap.size):=HA5.out.lt;obtain⟨gm,hgm⟩:=QE W5.heap.size;rw[hgm]at hM6 HGN;have cu:Hid (TK w W6 gR gm kb rb pb c b s1 (.slice none 0 0) (.slice none 0 0) [] []):=⟨qxz.out.new kG,HE5.out.below kG,HA5.out.below kG,hM6,qkX _ _,gH.nil _ _,HRN.out,HGN.out⟩;clear qxz HA5 HE5 kG hM6;unfold mZ at hW6;go_upto_region 4 with fail;try rw[hgm]
 try rw[hW6]
 clear hW6 hgm;have p0:=cu.out.env.p.cell 0;simp only[QA,QB,QC]at p0;have hlp:=cu.out.env.p.lt;go_wp2_with fail;refine(um (by have:=HBB.out;omega) cu.out.rd.ps cu.out.env.e.k cu.out.env.e.r).mono ?_;rintro e W7 ⟨g0,rfl,hg0,qx0,hq⟩;have HT7:=QH (cu.out.next hq);have hv:=qlr (B:=w.heap.size) qx0 (by have:=cu.out.rd.but.size;omega) (by rw[kP];have:=HBB.out;omega);rw[kP]at hv;have ml:=QH hv;clear hq hv hg0 qx0 p0 hlp cu;have HLV:Hid (gC b s1=ll s):=by unfold Hid ll;rw[gp.out,av.out]
 obtain⟨ls,hls⟩:=QE (gC b s1);rw[hls]at HT7 ml HLV;clear hls;obtain⟨l,hl⟩:=QE ls.1;rw[hl]at ml;have HLE:=QH hl;clear hl;have q0:=HT7.out.m.cell 0;simp only[mZ,QA,QB,QC]at q0;have f0:=HT7.out.m.frozen 0;have hlm:=HT7.out.m.lt;have HT8:=QH (HT7.out.q3u (.slice (some ⟨g0,0,none⟩) b b) ml.out);obtain⟨W8,hW8⟩:=QE (W7.setCell ⟨gm,0,none⟩ (.slice (some ⟨g0,0,none⟩) b b));rw[hW8]at HT8;clear HT7 ml;go_upto_region 5 with fail;try rw[hW8]
 clear hW8 q0 f0 hlm;have r0:=HT8.out.env.e.r.cell 0;simp only[QA,QB,QC]at r0;have hlr:=HT8.out.env.e.r.lt;go_wp2_with fail;refine(dp HT8.out.rd.ps 20 20 rfl (by omega)).mono ?_;rintro e W9 ⟨rfl,hq⟩;have HT9:=QH (HT8.out.next hq);clear hq r0 hlr HT8;have hnb:=fO 20 ls.2;obtain⟨n,hnE⟩:=QE ((kF 20 ls.2).1);rw[hnE]at hnb ⊢;have HNE:=QH hnE;have HNB:=QH hnb;clear hnE hnb;go_wp2_with fail;refine(qpr n (by have:=HNB.out;omega) (by have:=HBB.out;omega) HT9.out.rd.ps HT9.out.env).mono ?_;rintro e W10 ⟨gs,xs,rfl,hgs,hsn⟩;have rH:=QH (HT9.out.next hsn.rd);have HW9:Hid (w.heap.size≤W9.heap.size):=HT9.out.rd.but.size;have HV1:=QH (qpt (B:=w.heap.size) hsn (by have:=HW9.out;omega) HW9.out (by have:=HNB.out;omega));have HSE:Hid (xs.map (·.1)=(uf b n (kF 20 ls.2).2).1):=hsn.is;have HXL:Hid (xs.length=n):=hsn.len;clear hsn hgs HT9;have HAL:Hid (uf b n (kF 20 ls.2).2=qeg s):=by unfold Hid qeg;rw[gp.out,← HLV.out,HNE.out]
 obtain⟨ss,hss⟩:=QE (uf b n (kF 20 ls.2).2);rw[hss]at rH HSE HAL;have HSO:Hid (∀x∈ss.1,yl x.ql∧x.ql.length=b∧zZ x.g):=by rw[← hss];exact qab _ _ _
 clear hss;have q1:=rH.out.m.cell 1;simp only[mZ,QA,QB,QC]at q1;have f1:=rH.out.m.frozen 1;have hlm:=rH.out.m.lt;have fR:=QH (rH.out.q3v (.slice (some ⟨gs,0,none⟩) n n) HV1.out);obtain⟨W11,qtH⟩:=QE (W10.setCell ⟨gm,1,none⟩ (.slice (some ⟨gs,0,none⟩) n n));rw[qtH]at fR;clear rH HV1;go_upto_region 6 with fail;try rw[qtH]
 clear qtH q1 f1 hlm;have r0:=fR.out.env.e.r.cell 0;simp only[QA,QB,QC]at r0;have hlr:=fR.out.env.e.r.lt;go_wp2_with fail;refine(dn fR.out.rd.ps).mono ?_;rintro e W12 ⟨rfl,hq⟩;have vw:=QH (fR.out.next hq);clear hq r0 hlr fR;have HOK:Hid (qbX l ss.1):=by
  have hl1:l.length=b∧yl l:=by
   rw[← HLE.out,HLV.out];unfold ll;rw[gp.out];exact⟨kP _ _,qaa _ _⟩
  refine⟨hl1.2,fun x hx=>⟨(HSO.out x hx).1,(HSO.out x hx).2.2,by have:=(HSO.out x hx).2.1;have:=HBB.out;omega⟩,by have:=HBB.out;omega,?_⟩;rw[← HSE.out,List.length_map,HXL.out];have:=HNB.out;omega
 have HMP:Hid (mP s=⟨l,ss.1,if (yj ss.2).1=1 then(rD b (yj ss.2).2).1 else zI⟩):=by unfold Hid mP;rw[← HLV.out,← HAL.out,gp.out,HLE.out]
 obtain⟨fl,gD⟩:=QE ((yj ss.2).1);rw[gD]at HMP ⊢;obtain⟨s3,hs3⟩:=QE ((yj ss.2).2);rw[hs3]at HMP vw;clear gD hs3 HSO HAL HLV;by_cases h1:fl=1
 ·have hq:((fl:Int) == 1)=true:=by rw[h1];rfl
  have HM2:Hid (mP s=⟨l,ss.1,(rD b s3).1⟩):=by unfold Hid;rw[HMP.out,if_pos h1]
  clear h1 HMP;have r0:=vw.out.env.e.r.cell 0;simp only[QA,QB,QC]at r0;have hlr:=vw.out.env.e.r.lt;have p0:=vw.out.env.p.cell 0;simp only[QA,QB,QC]at p0;have hlp:=vw.out.env.p.lt;go_wp2_with fail;refine(fQ (by have:=HBB.out;omega) vw.out.rd.ps vw.out.env.e).mono ?_;rintro e W13 ⟨gt,rfl,hgt,qx1,hq⟩;have kQ:=QH (vw.out.next hq);have sK:Hid ((rD b s3).1.ql.length=b∧yl (rD b s3).1.ql∧(rD b s3).1.next≤9∧0≤(rD b s3).1.next∧(rD b s3).1.all≤9∧0≤(rD b s3).1.all):=by
   have e1:=fO 8 (vq (vq s3).2).2;have e2:=fO 8 (kF 8 (vq (vq s3).2).2).2;exact⟨kP _ _,qaa _ _,by show((kF 8 (vq (vq s3).2).2).1:Int)≤9;omega,by show(0:Int)≤((kF 8 (vq (vq s3).2).2).1:Int);omega,by show((kF 8 (kF 8 (vq (vq s3).2).2).2).1:Int)≤9;omega,by show(0:Int)≤((kF 8 (kF 8 (vq (vq s3).2).2).2).1:Int);omega⟩
  have HTB:=QH (qkE b s3);have hv:=qlr (B:=w.heap.size) qx1 (by have:=vw.out.rd.but.size;omega) (by rw[sK.out.1];have:=HBB.out;omega);rw[sK.out.1]at hv;obtain⟨t,ht⟩:=QE ((rD b s3).1);rw[ht]at hv sK HTB HM2;unfold gK;rw[ht,sK.out.1];have HV2:=QH hv;clear hq hv hgt qx1 r0 hlr p0 hlp vw ht;have wF:=kQ.out.m;have m2:=wF.cell 2;have m3:=wF.cell 3;have m4:=wF.cell 4;have m5:=wF.cell 5;have m6:=wF.cell 6;have m7:=wF.cell 7;have m8:=wF.cell 8;simp only[mZ,QA,QB,QC]at m2 m3 m4 m5 m6 m7 m8;have f2:=wF.frozen 2;have f3:=wF.frozen 3;have f4:=wF.frozen 4;have f5:=wF.frozen 5;have f6:=wF.frozen 6;have f7:=wF.frozen 7;have f8:=wF.frozen 8;have hlm:=wF.lt;have hk:=qhP (v:=.slice (some ⟨gt,0,none⟩) b b) (t:=t) wF;have HF:Hid (Fin w (xX W13 gm (.slice (some ⟨gt,0,none⟩) b b) t) gR gm c (.slice (some ⟨g0,0,none⟩) b b) (.slice (some ⟨gs,0,none⟩) n n) (.slice (some ⟨gt,0,none⟩) b b) ⟨l,ss.1,t⟩) :=
   ⟨(qhO kQ.out.rd wF (by have:=kQ.out.rn;have:=kQ.out.gn;omega)).but,kQ.out.res.of_block (qeA (by have:=kQ.out.gn;omega)),bA wF,
    ⟨xs,aQ kQ.out.live hk (by decide),kQ.out.row.kp hk (by decide) (by decide),aQ HV2.out hk (by decide),HSE.out⟩,
    ⟨HOK.out,⟨sK.out.2.1,by show t.ql.length≤100;have:=sK.out.1;have:=HBB.out;omega,HTB.out.1,HTB.out.2,by show qC t.next;unfold qC;have:=sK.out;omega,by show qC t.all;unfold qC;have:=sK.out;omega⟩⟩,kQ.out.rn⟩
  obtain⟨W14,mo⟩:=QE (xX W13 gm (.slice (some ⟨gt,0,none⟩) b b) t);rw[mo]at HF;unfold xX at mo;clear kQ HV2 hk wF;go_upto_region 8 with fail;try rw[mo]
  clear mo m2 m3 m4 m5 m6 m7 m8 f2 f3 f4 f5 f6 f7 f8 hlm;have m0:=HF.out.mm.cell 0;have m1:=HF.out.mm.cell 1;have m2:=HF.out.mm.cell 2;have m3:=HF.out.mm.cell 3;have m4:=HF.out.mm.cell 4;have m5:=HF.out.mm.cell 5;have m6:=HF.out.mm.cell 6;have m7:=HF.out.mm.cell 7;have m8:=HF.out.mm.cell 8;have a0:=HF.out.res.cell 0;have a1:=HF.out.res.cell 1;have a2:=HF.out.res.cell 2;have a3:=HF.out.res.cell 3;have a4:=HF.out.res.cell 4;have a5:=HF.out.res.cell 5;have a6:=HF.out.res.cell 6;have a7:=HF.out.res.cell 7;have a8:=HF.out.res.cell 8;simp only[mC,mZ,QA,QB,QC]at m0 m1 m2 m3 m4 m5 m6 m7 m8 a0 a1 a2 a3 a4 a5 a6 a7 a8;have f0:=HF.out.res.frozen 0;have f1:=HF.out.res.frozen 1;have f2:=HF.out.res.frozen 2;have f3:=HF.out.res.frozen 3;have f4:=HF.out.res.frozen 4;have f5:=HF.out.res.frozen 5;have f6:=HF.out.res.frozen 6;have f7:=HF.out.res.frozen 7;have f8:=HF.out.res.frozen 8;have hlm:=HF.out.mm.lt;have fC:=HF.out.res.lt;have HD:=QH HF.out.done;go_wp2_with fail;show bodyPost _ _ _ _ _ (xG W14 gR (.slice (some ⟨g0,0,none⟩) b b) (.slice (some ⟨gs,0,none⟩) n n) (.slice (some ⟨gt,0,none⟩) b b) t);obtain⟨WE,hWE⟩:=QE (xG W14 gR (.slice (some ⟨g0,0,none⟩) b b) (.slice (some ⟨gs,0,none⟩) n n) (.slice (some ⟨gt,0,none⟩) b b) t);have HD2:=HD.out;try dsimp only at HD2
  rw[hWE]at HD2 ⊢;have HD3:=QH HD2;clear HD2 hWE HD m0 m1 m2 m3 m4 m5 m6 m7 m8 a0 a1 a2 a3 a4 a5 a6 a7 a8 f0 f1 f2 f3 f4 f5 f6 f7 f8;exact qbZ (gR:=gR) (v0:=.slice (some ⟨g0,0,none⟩) b b) (v1:=.slice (some ⟨gs,0,none⟩) n n) (v2:=(.slice (some ⟨gt,0,none⟩) b b)) (m:=⟨l,ss.1,t⟩) _ rfl (by simp) HM2.out HD3.out
 ·have hq:((fl:Int) == 1)=false:=by simp;omega
  have HM2:Hid (mP s=⟨l,ss.1,zI⟩):=by unfold Hid;rw[HMP.out,if_neg h1]
  clear h1 HMP;have HF:Hid (Fin w W12 gR gm c (.slice (some ⟨g0,0,none⟩) b b) (.slice (some ⟨gs,0,none⟩) n n) (.slice none 0 0) ⟨l,ss.1,zI⟩) :=
   ⟨vw.out.rd.but,vw.out.res,vw.out.m,⟨xs,vw.out.live,vw.out.row,qkX _ _,HSE.out⟩,⟨HOK.out,qtB⟩,vw.out.rn⟩
  go_upto_region 8 with fail;have m0:=HF.out.mm.cell 0;have m1:=HF.out.mm.cell 1;have m2:=HF.out.mm.cell 2;have m3:=HF.out.mm.cell 3;have m4:=HF.out.mm.cell 4;have m5:=HF.out.mm.cell 5;have m6:=HF.out.mm.cell 6;have m7:=HF.out.mm.cell 7;have m8:=HF.out.mm.cell 8;have a0:=HF.out.res.cell 0;have a1:=HF.out.res.cell 1;have a2:=HF.out.res.cell 2;have a3:=HF.out.res.cell 3;have a4:=HF.out.res.cell 4;have a5:=HF.out.res.cell 5;have a6:=HF.out.res.cell 6;have a7:=HF.out.res.cell 7;have a8:=HF.out.res.cell 8;simp only[mC,mZ,QA,QB,QC]at m0 m1 m2 m3 m4 m5 m6 m7 m8 a0 a1 a2 a3 a4 a5 a6 a7 a8;have f0:=HF.out.res.frozen 0;have f1:=HF.out.res.frozen 1;have f2:=HF.out.res.frozen 2;have f3:=HF.out.res.frozen 3;have f4:=HF.out.res.frozen 4;have f5:=HF.out.res.frozen 5;have f6:=HF.out.res.frozen 6;have f7:=HF.out.res.frozen 7;have f8:=HF.out.res.frozen 8;have hlm:=HF.out.mm.lt;have fC:=HF.out.res.lt;have HD:=QH HF.out.done;go_wp2_with fail;show bodyPost _ _ _ _ _ (xG W12 gR (.slice (some ⟨g0,0,none⟩) b b) (.slice (some ⟨gs,0,none⟩) n n) (.slice none 0 0) zI);obtain⟨WE,hWE⟩:=QE (xG W12 gR (.slice (some ⟨g0,0,none⟩) b b) (.slice (some ⟨gs,0,none⟩) n n) (.slice none 0 0) zI);have HD2:=HD.out;try dsimp only at HD2
  rw[hWE]at HD2 ⊢;have HD3:=QH HD2;clear HD2 hWE HD m0 m1 m2 m3 m4 m5 m6 m7 m8 a0 a1 a2 a3 a4 a5 a6 a7 a8 f0 f1 f2 f3 f4 f5 f6 f7 f8;exact qbZ (gR:=gR) (v0:=.slice (some ⟨g0,0,none⟩) b b) (v1:=.slice (some ⟨gs,0,none⟩) n n) (v2:=(.slice none 0 0)) (m:=⟨l,ss.1,zI⟩) _ rfl (by simp) HM2.out HD3.out
end Go.Proofs.YtdagdllomphidaaGreatDoor.mt.pg
namespace Go.Proofs.YtdagdllomphidaaGreatDoor.mt.pg
open _root_.Go.Proofs.Tryz Go Go.RowKit ib wi mt
def qpu (r:List UInt8)(w:World)(e:Ending)(w':World):Prop:=e=.returned (.string (str r))∧Below w.heap.size w w'
def qx2 (L:List UInt8)(l:List Int)(w:World)(v x i:Value)(wr:World):Prop :=
 ∃k:Nat,k≤l.length∧i=.int .i64 (k:Int)∧v=.string (str (L++zh (l.take k)))∧Below w.heap.size w wr
theorem qeB(l:List Int)(k:Nat)(h:k<l.length):zh (l.take (k+1))=zh (l.take k)++ye l[k]:=by
 unfold zh;rw[List.take_succ_eq_append_getElem h,List.flatMap_append];simp
theorem qw (n:Nat):(zo n).length≤9:=by
 unfold zo;have:=jC n;simp only[List.length_cons];omega
theorem jo:∀l:List Int,(zh l).length≤9*l.length
 | []=>by simp[zh]
 | z::l=>by
  have h1:=qw z.toNat;have h2:=jo l;simp only[zh,List.flatMap_cons,List.length_append,List.length_cons,ye]at h2 ⊢;omega
theorem kR (L:List UInt8)(A:Option Addr)(c:Nat)(l:List Int)(w:World)(hl:qJ w A l)(h0:∀z∈l,0≤z)(hs:L.length≤100000)(h1:l.length≤1000) :
    Calls prog 181 #[.string (str L),.slice A l.length c] w (qpu (L++zh l) w):=by
 have HL:=QH hl;have HN:=QH h0;have HS:=QH hs;have HI0:Hid (str L=str (L++zh (l.take 0))):=by unfold Hid;simp[zh]
 clear hl h0 hs;obtain⟨P0,hP0⟩:=QE (str L);rw[hP0]at HI0 ⊢;clear hP0;go_enter func181,ntmps181;go_wp2_with fail;go_loopw [0,6,9] (fun v x i wr=>qx2 L l w v x i wr) (fun _ _ i _=>l.length-(intOf i).toNat);case atStart=>exact⟨0,Nat.zero_le _,rfl,by rw[HI0.out],Below.refl _ _⟩
 case round =>
  obtain⟨k,hk,rfl,rfl,hb⟩:=hrel;have HB:=QH hb;clear hb;by_cases hlt:k<l.length
  ·have jD:(k:Int)<(l.length:Int):=by omega
   obtain⟨b,o,rfl,hbl,hc,hz⟩:=HL.out k hlt;have hz0:=HN.out l[k] (List.getElem_mem hlt);have kI:=QH (qeB l k hlt);have aM:=QH (jo (l.take k));have e0:wr.cell? ⟨b,o+k,none⟩=some (.int .i64 l[k]):=by rw[HB.out.cell (p:=⟨b,o+k,none⟩) hbl];exact hc
   have l0:b<wr.heap.size:=Nat.lt_of_lt_of_le hbl HB.out.size;clear hc hbl;obtain⟨u,hu⟩:∃u:Nat,l[k]=(u:Int):=⟨l[k].toNat,by omega⟩;rw[hu]at e0;have q96:(u:Int)≤9223372036854775807:=by rw[← hu];exact hz.2
   have HU:=QH hu;obtain⟨P,hP⟩:=QE (str (L++zh (l.take k)));have hPs:P.size≤140737488355000:=by
    rw[← hP,qO,List.length_append];have:=aM.out;have:=HS.out;simp at *;omega
   have HP:=QH hP;have lz:=QH hPs;rw[hP];clear hP hPs hu hz hz0;go_wp2_with fail;refine(jT P u wr (by omega) lz.out).mono ?_;rintro e w' ⟨rfl,hb'⟩;have HB':=QH (qc HB.out hb');clear hb';go_wp2_with fail;go_roundw;case rel =>
    refine⟨k+1,by omega,by go_num,?_,HB'.out⟩;rw[kI.out,HU.out,← HP.out,za,List.append_assoc];rfl
   case measure=>simp[intOf];omega
  ·have jD:¬ (k:Int)<(l.length:Int):=by omega
   obtain rfl:k=l.length:=by omega
   rw[List.take_length];go_wp2_with fail;go_ret;exact⟨rfl,HB.out⟩
def ql4 (w:World)(a:Option Addr)(l:List Nat):Prop :=
 ∀i (h:i<l.length),∃b o,a=some ⟨b,o,none⟩∧b<w.heap.size∧w.cell? ⟨b,o+i,none⟩=some (.int .u64 (l[i]:Int))∧l[i]<18446744073709551616
def vO (l:List Nat):List UInt8:=l.flatMap zo
theorem qeC(l:List Nat)(k:Nat)(h:k<l.length):vO (l.take (k+1))=vO (l.take k)++zo l[k]:=by
 unfold vO;rw[List.take_succ_eq_append_getElem h,List.flatMap_append];simp
theorem sL:∀l:List Nat,(vO l).length≤9*l.length
 | []=>by simp[vO]
 | z::l=>by
  have h1:=qw z;have h2:=sL l;simp only[vO,List.flatMap_cons,List.length_append,List.length_cons]at h2 ⊢;omega
def qx5 (L:List UInt8)(l:List Nat)(w:World)(v x i:Value)(wr:World):Prop :=
 ∃k:Nat,k≤l.length∧i=.int .i64 (k:Int)∧v=.string (str (L++vO (l.take k)))∧Below w.heap.size w wr
theorem qca(L:List UInt8)(A:Option Addr)(c:Nat)(l:List Nat)(w:World)(hl:ql4 w A l)(hs:L.length≤100000)(h1:l.length≤1000) :
    Calls prog 182 #[.string (str L),.slice A l.length c] w (qpu (L++vO l) w):=by
 have HL:=QH hl;have HS:=QH hs;have HI0:Hid (str L=str (L++vO (l.take 0))):=by unfold Hid;simp[vO]
 clear hl hs;obtain⟨P0,hP0⟩:=QE (str L);rw[hP0]at HI0 ⊢;clear hP0;go_enter func182,ntmps182;go_wp2_with fail;go_loopw [0,6,9] (fun v x i wr=>qx5 L l w v x i wr) (fun _ _ i _=>l.length-(intOf i).toNat);case atStart=>exact⟨0,Nat.zero_le _,rfl,by rw[HI0.out],Below.refl _ _⟩
 case round =>
  obtain⟨k,hk,rfl,rfl,hb⟩:=hrel;have HB:=QH hb;clear hb;by_cases hlt:k<l.length
  ·have jD:(k:Int)<(l.length:Int):=by omega
   obtain⟨b,o,rfl,hbl,hc,hz⟩:=HL.out k hlt;have kI:=QH (qeC l k hlt);have aM:=QH (sL (l.take k));have e0:wr.cell? ⟨b,o+k,none⟩=some (.int .u64 (l[k]:Int)):=by rw[HB.out.cell (p:=⟨b,o+k,none⟩) hbl];exact hc
   have l0:b<wr.heap.size:=Nat.lt_of_lt_of_le hbl HB.out.size;clear hc hbl;obtain⟨u,hu⟩:=QE (l[k]:Nat);rw[hu]at e0 hz;have HU:=QH hu;have HZ:=QH hz;obtain⟨P,hP⟩:=QE (str (L++vO (l.take k)));have hPs:P.size≤140737488355000:=by
    rw[← hP,qO,List.length_append];have:=aM.out;have:=HS.out;simp at *;omega
   have HP:=QH hP;have lz:=QH hPs;rw[hP];clear hP hPs hu hz;go_wp2_with fail;refine(jT P u wr HZ.out lz.out).mono ?_;rintro e w' ⟨rfl,hb'⟩;have HB':=QH (qc HB.out hb');clear hb';go_wp2_with fail;go_roundw;case rel =>
    refine⟨k+1,by omega,by go_num,?_,HB'.out⟩;rw[kI.out,HU.out,← HP.out,za,List.append_assoc]
   case measure=>simp[intOf];omega
  ·have jD:¬ (k:Int)<(l.length:Int):=by omega
   obtain rfl:k=l.length:=by omega
   rw[List.take_length];go_wp2_with fail;go_ret;exact⟨rfl,HB.out⟩
theorem nC (b:Bool)(w:World):Calls prog 183 #[.bool b] w (fun e w'=>e=.returned (.int .i64 (if b then 1 else 0))∧w'=w):=by
 cases b
 ·go_enter func183,ntmps183;go_wp2_with fail;go_ret;exact⟨rfl,rfl⟩
 ·go_enter func183,ntmps183;go_wp2_with fail;go_ret;exact⟨rfl,rfl⟩
theorem cM (s:ByteArray)(w:World)(hs:s.size≤4611686018427387904) :
    Calls prog 180 #[.string s] w fun e w'=>e=.returned (.int .i64 (nsec s.size:Int))∧w'=w:=by
 have e1:(nsec s.size:Int)=(s.size:Int)/32+(6+(s.size:Int)%32+32-1)/32:=by unfold nsec;omega
 have E1:=QH e1;clear e1;go_enter func180,ntmps180;go_wp2;go_ret;exact⟨by rw[E1.out];rfl,rfl⟩
def qhU (l:List UInt8):List UInt8 × Int:=if 48<nsec l.length then([],3)else(l,0)
theorem qpv(l:List UInt8)(w:World)(hs:l.length≤100000):Calls prog 146 #[.string (str l)] w (fun e w'=>e=.returned (.tuple #[.string (str (qhU l).1),.int .i64 (qhU l).2])∧w'=w):=by
 have HZ:=QH (cM (str l) w (by rw[qO];omega));rw[qO]at HZ;have HR:Hid (qhU l=if 48<nsec l.length then([],3)else(l,0)):=rfl;obtain⟨n,hn⟩:=QE (nsec l.length);rw[hn]at HZ HR;obtain⟨S,hS⟩:=QE (str l);have HS:=QH hS;rw[hS]at HZ ⊢;clear hS hn;by_cases h:48<n
 ·have hi:(48:Int)<(n:Int):=by omega
  have jA:Hid (qhU l=([],3)):=by unfold Hid;rw[HR.out,if_pos h]
  clear h;go_enter func146,ntmps146;go_wp2_with fail;refine HZ.out.mono ?_;rintro e _ ⟨rfl,rfl⟩;go_wp2_with fail;go_ret2;exact⟨by rw[jA.out];rfl,rfl⟩
 ·have hi:¬ (48:Int)<(n:Int):=by omega
  have jA:Hid (qhU l=(l,0)):=by unfold Hid;rw[HR.out,if_neg h]
  clear h;go_enter func146,ntmps146;go_wp2_with fail;refine HZ.out.mono ?_;rintro e _ ⟨rfl,rfl⟩;go_wp2_with fail;go_ret2;exact⟨by rw[jA.out,HS.out];rfl,rfl⟩
end Go.Proofs.YtdagdllomphidaaGreatDoor.mt.pg
namespace Go.Proofs.YtdagdllomphidaaGreatDoor.mt.pg
open _root_.Go.Proofs.Tryz Go Go.RowKit ib wi im mt
theorem nD (t:Tk)(A:Option Addr)(c:Nat)(w:World)(h:yE w A t.ql c)(hl:t.ql.length≤1000):Calls prog 153 #[.agg (gK t A c)] w (dh (decide (t=zI)) w):=by
 have hb:=(Below.refl w.heap.size w).alloc (Nat.le_refl _) (.cells (gK t A c) 59);have ha:=qf.new w 59 (gK t A c);obtain⟨W,hW⟩:=QE (w.alloc (.cells (gK t A c) 59));rw[hW]at hb ha;have HT:=QH (rG t zI A none c 0 W (h.below hb) (yE.none _) hl);have HB:=QH hb;have a0:=ha.cell 0;have a1:=ha.cell 1;have a2:=ha.cell 2;have a3:=ha.cell 3;have a4:=ha.cell 4;have a5:=ha.cell 5;have a6:=ha.cell 6;have fC:=ha.lt;simp only[gK,QA,QB,QC]at a0 a1 a2 a3 a4 a5 a6;clear hb ha h hl;unfold gK at hW ⊢;go_enter func153,ntmps153;go_upto_region 1 with fail;try rw[hW]
 clear hW;go_wp2_with fail;refine HT.out.mono ?_;rintro e W9 ⟨rfl,hb9⟩;have HB9:=QH (qc HB.out hb9);clear hb9 a0 a1 a2 a3 a4 a5 a6 fC;go_wp2_with fail;go_ret;exact⟨rfl,HB9.out⟩
theorem qeD(b n:Int)(last:Gd):ub b n last zI=0:=by unfold ub;rw[if_pos (show zI.target=(0,0)from rfl),if_pos (show tW zI=true by decide)]
theorem qeE(last:Gd):above (0,0) last=false:=by unfold above;simp
theorem qhV{b n:Int}{last:Gd}{t:Tk}(h:t≠zI)(hb:gZ t last b=true):ub b n last t=2:=by
 unfold ub;by_cases h0:t.target=(0,0)
 ·rw[if_pos h0,if_neg];intro h1;apply h;unfold tW at h1;simp only[Bool.and_eq_true,decide_eq_true_eq]at h1;obtain⟨⟨⟨e1,e2⟩,e3⟩,e4⟩:=h1;cases t;simp only at e1 e2 e3 e4 h0;subst e1 e2 e3 e4 h0;rfl
 ·rw[if_neg h0,if_pos hb]
theorem qeF{b n:Int}{last:Gd}{t:Tk}(hb:gZ t last b=false):ub b n last t=zF t.ql b n:=by
 unfold ub;rw[if_neg,if_neg (by rw[hb];decide)];intro h0;unfold gZ at hb;rw[h0,qeE]at hb;simp at hb
theorem nE (t:Tk)(A:Option Addr)(c:Nat)(last:Gd)(b n:Int)(w:World)(h:yE w A t.ql c)(hl:t.ql.length≤1000)(hb:qC b)(hn:qC n) :
    Calls prog 96 #[.agg (gK t A c),gv last,.int .i64 b,.int .i64 n] w (qh2 (ub b n last t) w):=by
 have HN:=QH (And.intro hb hn);have HL:=QH hl;have hb1:=(Below.refl w.heap.size w).alloc (Nat.le_refl _) (.cells (gK t A c) 59);have ha1:=qf.new w 59 (gK t A c);obtain⟨W1,hW1⟩:=QE (w.alloc (.cells (gK t A c) 59));rw[hW1]at hb1 ha1;have hb2:=(Below.refl W1.heap.size W1).alloc (Nat.le_refl _) (.cells #[.int .u64 (last.1:Int),.int .u64 (last.2:Int)] 55);have ha2:=qf.new W1 55 #[.int .u64 (last.1:Int),.int .u64 (last.2:Int)];obtain⟨W2,hW2⟩:=QE (W1.alloc (.cells #[.int .u64 (last.1:Int),.int .u64 (last.2:Int)] 55));rw[hW2]at hb2 ha2;have HB:=QH (qc hb1 hb2);have HA:=QH (ha1.below hb2);have HG:=QH ha2;have HI:=QH (h.below HB.out);have HT:=QH (nD t A c W2 HI.out hl);have a0:=HA.out.cell 0;have a1:=HA.out.cell 1;have a2:=HA.out.cell 2;have a3:=HA.out.cell 3;have a4:=HA.out.cell 4;have a5:=HA.out.cell 5;have a6:=HA.out.cell 6;have fC:=HA.out.lt;simp only[gK,QA,QB,QC]at a0 a1 a2 a3 a4 a5 a6;clear hb1 ha1 hb2 ha2 h hl hb hn;obtain⟨res,hres⟩:=QE (ub b n last t);rw[hres];have xr:=QH hres;clear hres;unfold gK at hW1 ⊢;unfold gv;go_enter func96,ntmps96;go_upto_region 1 with fail;try rw[hW2]
 clear hW1 hW2;obtain⟨gg,hgg⟩:=QE W1.heap.size;rw[hgg]at HG;try rw[hgg]
 clear hgg;go_wp2_with fail;refine HT.out.mono ?_;rintro e W3 ⟨rfl,hb3⟩;have qV:=QH (qc HB.out hb3);have hA:=HA.out.below hb3;have hG:=HG.out.below hb3;have HI3:=QH (HI.out.below hb3);have bw:=QH hA;have HG3:=QH hG;have a0:=hA.cell 0;have a1:=hA.cell 1;have a2:=hA.cell 2;have a3:=hA.cell 3;have a4:=hA.cell 4;have a5:=hA.cell 5;have a6:=hA.cell 6;have g0:=hG.cell 0;have g1:=hG.cell 1;have fC:=hA.lt;have hlg:=hG.lt;simp only[gK,QA,QB,QC]at a0 a1 a2 a3 a4 a5 a6 g0 g1;clear hb3 hA hG HA HG HI;by_cases h0:t=zI
 case' pos =>
  rw[decide_eq_true h0];have HR:Hid (res=0):=by unfold Hid;rw[← xr.out,h0,qeD]
  clear h0;go_wp2_with fail;go_ret;exact⟨by rw[HR.out];rfl,qV.out⟩
 rw[decide_eq_false h0];have uQ:Hid (gZ t last b=true→res=2):=fun hq=>by rw[← xr.out];exact qhV h0 hq
 have q31:Hid (gZ t last b=false→res=zF t.ql b n):=fun hq=>by rw[← xr.out];exact qeF hq
 have qhW:Hid (gZ t last b=(!decide (t.base=last) || !above t.target last || decide (t.next<1) || decide (t.all≤t.next) || decide (b<t.all))):=rfl;clear h0 xr;by_cases h1:t.base=last
 case' neg =>
  have HR:Hid (res=2):=uQ.out (by rw[qhW.out,decide_eq_false h1];simp);have hgn:=sF h1;clear h1;rcases hgn with hgn|⟨hgn,qxn⟩
  ·go_wp2_with fail;go_ret;exact⟨by rw[HR.out];rfl,qV.out⟩
  ·go_wp2_with fail;go_ret;exact⟨by rw[HR.out];rfl,qV.out⟩
 rw[h1]at a0 a1;have H1:=QH h1;have HAB:=QH (aq t.target last W3);clear h1;unfold gv at HAB;go_wp2_with fail;refine HAB.out.mono ?_;rintro e W4 ⟨rfl,hb4⟩;have zO:=QH (qc qV.out hb4);have hA:=bw.out.below hb4;have HI4:=QH (HI3.out.below hb4);have a4:=hA.cell 4;have a5:=hA.cell 5;have a6:=hA.cell 6;have fC:=hA.lt;simp only[gK,QA,QB,QC]at a4 a5 a6;clear hb4 hA a0 a1 a2 a3 g0 g1 hlg bw HG3 HI3;obtain⟨q,hq⟩:=QE (above t.target last);rw[hq];cases q with
 | false =>
  have HR:Hid (res=2):=uQ.out (by rw[qhW.out,hq];simp);clear hq;go_wp2_with fail;go_ret;exact⟨by rw[HR.out];rfl,zO.out⟩
 | true =>
  have HQ:=QH hq;clear hq;by_cases h2:t.next<1
  ·have HR:Hid (res=2):=uQ.out (by rw[qhW.out,decide_eq_true h2];simp);go_wp2_with fail;go_ret;exact⟨by rw[HR.out];rfl,zO.out⟩
  by_cases h3:t.all≤t.next
  ·have HR:Hid (res=2):=uQ.out (by rw[qhW.out,decide_eq_true h3];simp);go_wp2_with fail;go_ret;exact⟨by rw[HR.out];rfl,zO.out⟩
  by_cases h4:b<t.all
  ·have HR:Hid (res=2):=uQ.out (by rw[qhW.out,decide_eq_true h4];simp);go_wp2_with fail;go_ret;exact⟨by rw[HR.out];rfl,zO.out⟩
  have HR:Hid (res=zF t.ql b n):=q31.out (by rw[qhW.out,HQ.out,decide_eq_true H1.out,decide_eq_false h2,decide_eq_false h3,decide_eq_false h4];rfl);go_wp2_with fail;refine(bz A c t.ql b n W4 HI4.out HL.out HN.out.1 HN.out.2).mono ?_;rintro e W5 ⟨rfl,hb5⟩;have jx:=QH (qc zO.out hb5);rw[← HR.out];clear hb5 a4 a5 a6 fC h2 h3 h4;go_wp2_with fail;go_ret;exact⟨rfl,jx.out⟩
end Go.Proofs.YtdagdllomphidaaGreatDoor.mt.pg
namespace Go.Proofs.YtdagdllomphidaaGreatDoor.mt
open _root_.Go.Proofs.Tryz Go Go.RowKit Go.Sort ib
end Go.Proofs.YtdagdllomphidaaGreatDoor.mt
namespace Go.Proofs.YtdagdllomphidaaGreatDoor.im
open _root_.Go.Proofs.Tryz Go Go.RowKit ib
theorem qx6{w wr:World}(h:Below w.heap.size w wr)(n:Nat):Below w.heap.size w (wr.drewN n):=⟨h.os,h.tape,h.output,h.size,h.block⟩
end Go.Proofs.YtdagdllomphidaaGreatDoor.im
namespace Go.Proofs.YtdagdllomphidaaGreatDoor.mt
open _root_.Go.Proofs.Tryz Go Go.RowKit ib wi im
theorem qcb{m:Mt}{b n:Int}(h1:zF m.live b n=0)(h2:20<m.qa.length):xi m b n=3:=by
 unfold xi;rw[if_neg (show ¬ zF m.live b n≠0 by rw[h1];simp),if_pos h2]
theorem qhX{m:Mt}{b n:Int}(h1:zF m.live b n=0)(h2:¬ 20<m.qa.length):xi m b n=if (xR b n (0,0) m.qa).1≠0 then(xR b n (0,0) m.qa).1 else ub b n (xR b n (0,0) m.qa).2 m.tok:=by
 unfold xi;rw[if_neg (show ¬ zF m.live b n≠0 by rw[h1];simp),if_neg h2]
theorem qhY{b n:Int}{last:Gd}{x:Sp}{r:List Sp}(h:above x.g last=false):xR b n last (x::r)=(2,last):=by
 conv=>lhs;unfold xR
 rw[h];rfl
theorem qhZ{b n:Int}{last:Gd}{x:Sp}{r:List Sp}(h:above x.g last=true)(h0:zF x.ql b n≠0):xR b n last (x::r)=(zF x.ql b n,x.g):=by
 conv=>lhs;unfold xR
 rw[if_pos h,if_neg h0]
theorem qeH{b n:Int}{last:Gd}{x:Sp}{r:List Sp}(h:above x.g last=true)(h0:zF x.ql b n=0):xR b n last (x::r)=xR b n x.g r:=by
 conv=>lhs;unfold xR
 rw[if_pos h,if_pos h0]
end Go.Proofs.YtdagdllomphidaaGreatDoor.mt
namespace Go.Proofs.YtdagdllomphidaaGreatDoor.mt.pg
open _root_.Go.Proofs.Tryz Go Go.RowKit ib wi im mt
def q32 (gl:Nat)(b n:Int)(xs:List Sp)(w:World)(i:Value)(wr:World):Prop :=
 ∃(k:Nat) (last:Gd),k≤xs.length∧i=.int .i64 (k:Int)∧qf wr gl 55 #[.int .u64 (last.1:Int),.int .u64 (last.2:Int)]∧xR b n (0,0) xs=xR b n last (xs.drop k)∧qx (fun j=>j=gl) w wr
theorem sM (v:Value)(m:Mt)(b n:Int)(w:World)(h:qag w v m)(hs:mtS m)(hbB:qC b)(hnB:qC n):Calls prog 44 #[v,.int .i64 b,.int .i64 n] w (qh2 (xi m b n) w):=by
 obtain⟨A0,A1,A2,c0',c1',c2',rfl,hm⟩:=h;have HM:=QH hm;have fU:=QH hs;have HNB:=QH (And.intro hbB hnB);clear hm hs hbB hnB;have hb0:=(Below.refl w.heap.size w).alloc (Nat.le_refl _) (.cells (zj A0 A1 A2 c0' c1' c2' m) 93);have xn:=QH hb0;have HM0:=QH (HM.out.below hb0);have ym:=QH (qf.new w 93 (zj A0 A1 A2 c0' c1' c2' m));obtain⟨w0,hw0⟩:=QE (w.alloc (.cells (zj A0 A1 A2 c0' c1' c2' m) 93));rw[hw0]at xn HM0 ym;clear hb0;have c0:=ym.out.cell 0;unfold zj at c0 hw0 ⊢;simp only[QA,QB,QC]at c0;have hlt:=ym.out.lt;obtain⟨res,hres⟩:=QE (xi m b n);rw[hres];have xr:=QH hres;clear hres;go_enter func44,ntmps44;go_wp2_with fail;try rw[hw0]
 clear hw0 c0 hlt;refine(bz A0 c0' m.live b n w0 HM0.out.live fU.out.live HNB.out.1 HNB.out.2).mono ?_;rintro e W1 ⟨rfl,hb1⟩;have qP:=QH (qc xn.out hb1);have HM1:=QH (HM0.out.below hb1);have fP:=QH (ym.out.below hb1);clear hb1 ym HM0 xn;obtain⟨er,her⟩:=QE (zF m.live b n);rw[her];have HER:=QH her;clear her;by_cases he:er=0
 case' neg =>
  have hne:(er != 0)=true:=by simpa using he
  have hr:res=er:=by rw[← xr.out];unfold xi;rw[HER.out,if_pos he]
  have HR:=QH hr;clear hr he;go_wp2_with fail;go_ret;exact⟨by rw[HR.out];rfl,qP.out⟩
 case' pos =>
  subst he
 have c1:=fP.out.cell 1;simp only[zj,QA,QB,QC]at c1;have hlt:=fP.out.lt;by_cases hl:20<m.qa.length
 case' pos =>
  have nv:(20:Int)<(m.qa.length:Int):=by omega
  have hr:res=3:=by rw[← xr.out];exact qcb HER.out hl
  have HR:=QH hr;clear hr hl;go_wp2_with fail;go_ret;exact⟨by rw[HR.out];rfl,qP.out⟩
 have nv:¬ (20:Int)<(m.qa.length:Int):=by omega
 have hres:(if (xR b n (0,0) m.qa).1≠0 then(xR b n (0,0) m.qa).1 else ub b n (xR b n (0,0) m.qa).2 m.tok)=res:=by
  rw[← xr.out];exact(qhX HER.out hl).symm
 have sD:=QH hres;have q33:Hid (m.qa.length≤20):=by unfold Hid;omega
 clear hres hl xr HER;have hb2:=(Below.refl _ W1).alloc (Nat.le_refl _) (.cells #[.int .u64 0,.int .u64 0] 55);have qy:=QH (qc qP.out hb2);have HM2:=QH (HM1.out.below hb2);have ai:=QH (fP.out.below hb2);have mq:=QH (qf.new W1 55 #[.int .u64 0,.int .u64 0]);have HGL:Hid (w.heap.size<W1.heap.size):=fP.out.lt;clear hb2;obtain⟨gl,gF⟩:=QE W1.heap.size;obtain⟨W2,hW2⟩:=QE (W1.alloc (.cells #[.int .u64 0,.int .u64 0] 55));rw[hW2]at qy HM2 ai mq;have d1:=ai.out.cell 1;simp only[zj,QA,QB,QC]at d1;have hlt2:=ai.out.lt;go_upto_region 7 with fail;try rw[hW2]
 clear hW2 c1 hlt;go_wp2_with fail;rw[gF]at HGL mq;try rw[gF]
 clear d1 hlt2 fP HM1 qP;clear gF;obtain⟨len,hlen⟩:=QE m.qa.length;have HLEN:=QH hlen;rw[hlen]at q33 ⊢;clear hlen;go_loopw [10,11,27] (fun _ _ i wr=>q32 gl b n m.qa W2 i wr) (fun _ _ i _=>m.qa.length-(intOf i).toNat);case atStart=>exact⟨0,(0,0),Nat.zero_le _,rfl,mq.out,rfl,qx.refl _ _⟩
 case round =>
  obtain⟨k,last,hk,rfl,hbl,hsn,lA⟩:=hrel;have HLA:=QH hbl;have kI:=QH hsn;have HBT:=QH lA;have kS:Hid (Below w.heap.size w wr):=qy.out.trans (lA.below (fun j hj=>by rw[hj];exact Nat.le_of_lt HGL.out) qy.out.size);have HMW:=QH (HM.out.below kS.out);have HAW:=QH (ai.out.of_block (lA.block _ ai.out.lt (fun e=>by have:=HGL.out;omega)));rw[HLEN.out]at hk;clear hbl hsn lA;by_cases hlt:k<len
  ·have jD:(k:Int)<(len:Int):=by omega
   have hkm:k<m.qa.length:=by rw[HLEN.out];exact hlt
   obtain⟨bb,bo,B,cb,hA1,hlb,e0,e1,e2,e3,wu,hgd⟩:=HMW.out.qa k hkm;obtain⟨x,hx⟩:=QE (m.qa[k]);rw[hx]at e0 e1 e2 e3 wu hgd;have HDR:Hid (m.qa.drop k=x::m.qa.drop (k+1)):=by rw[← hx];exact List.drop_eq_getElem_cons hkm
   have HXS:Hid (x.ql.length≤1000):=by rw[← hx];exact fU.out.uj _ (List.getElem_mem hkm)
   subst hA1;have fE:=QH wu;clear wu hgd hx HMW;obtain⟨W3,hW3⟩:=QE (wr.alloc (.cells (snC x B cb) 145));have hb3:Below wr.heap.size wr W3:=by rw[← hW3];exact(Below.refl _ wr).alloc (Nat.le_refl _) _
   have hS:qf W3 wr.heap.size 145 (snC x B cb):=by rw[← hW3];exact qf.new _ _ _
   have qV:=QH hb3;have HS3:=QH hS;have HL3:=QH (HLA.out.below hb3);have x0:=hS.cell 0;have x1:=hS.cell 1;have hlx:=hS.lt;have l0:=HL3.out.cell 0;have l1:=HL3.out.cell 1;have lB:=HL3.out.lt;simp only[snC,QA,QB,QC]at x0 x1 l0 l1;unfold snC at hW3;clear hS hb3;have HAB:=QH (aq x.g last W3);unfold gv at HAB;go_upto_region 10 with fail;try rw[hW3]
   clear hW3 e0 e1 e2 e3;obtain⟨gs,hgs⟩:=QE wr.heap.size;have HGS:=QH hgs;rw[hgs]at x0 x1 hlx HS3;try rw[hgs]
   clear hgs;go_wp2_with fail;refine HAB.out.mono ?_;rintro e W4 ⟨rfl,hb4⟩;have zO:=QH (qc qV.out hb4);have HS4:=QH (HS3.out.below hb4);have HL4:=QH (HL3.out.below hb4);have hS:=HS4.out;have x1':=hS.cell 2;have hlx:=hS.lt;simp only[snC,QA,QB,QC]at x1';clear hb4 x0 x1 l0 l1 lB hS HS3 HL3;obtain⟨q,hq⟩:=QE (above x.g last);rw[hq];cases q with
   | false =>
    have HR:Hid (res=2):=by
     unfold Hid;rw[← sD.out,kI.out,HDR.out,qhY hq];rfl
    clear hq;go_wp2_with fail;go_ret;exact⟨by rw[HR.out];rfl,qc kS.out zO.out⟩
   | true =>
    have HQ:=QH hq;clear hq;go_wp2_with fail;refine(bz B cb x.ql b n W4 (fE.out.below zO.out) HXS.out HNB.out.1 HNB.out.2).mono ?_;rintro e W5 ⟨rfl,hb5⟩;have jx:=QH (qc zO.out hb5);have HS5:=QH (HS4.out.below hb5);have HL5:=QH (HL4.out.below hb5);clear hb5 x1' hlx HS4 HL4;obtain⟨ei,hei⟩:=QE (zF x.ql b n);rw[hei];by_cases he:ei=0
    ·subst he;have HN:Hid (xR b n (0,0) m.qa=xR b n x.g (m.qa.drop (k+1))):=by
      unfold Hid;rw[kI.out,HDR.out,qeH HQ.out hei]
     have x0:=HS5.out.cell 0;have x1:=HS5.out.cell 1;have hlx:=HS5.out.lt;have lB:=HL5.out.lt;have l0:=HL5.out.cell 0;have l1:=HL5.out.cell 1;have f0:=HL5.out.frozen 0;have f1:=HL5.out.frozen 1;simp only[snC,QA,QB,QC]at x0 x1 l0 l1;clear hei;go_wp2_with fail;have HL6:=QH ((HL5.out.qo 0 (.int .u64 (x.g.1:Int))).qo 1 (.int .u64 (x.g.2:Int)));go_roundw;case rel =>
      refine⟨k+1,x.g,by rw[HLEN.out];omega,by go_num,HL6.out,HN.out,?_⟩;have ru:qx (fun j=>j=gl) W2 W5:=HBT.out.trans (qx.of_below jx.out) (fun i hi=>.inl hi);exact(ru.setCell _ _ (.inl rfl)).setCell _ _ (.inl rfl)
     case measure=>simp[intOf];have:=HLEN.out;omega
    ·have hne:(ei != 0)=true:=by simpa using he
     have HR:Hid (res=ei):=by
      unfold Hid;rw[← sD.out,kI.out,HDR.out,qhZ HQ.out (by rw[hei];exact he),hei];simp[he]
     clear hei he;go_wp2_with fail;go_ret;exact⟨by rw[HR.out];rfl,qc kS.out jx.out⟩
  ·have jD:¬ (k:Int)<(len:Int):=by omega
   have hsn:xR b n (0,0) m.qa=(0,last):=by
    rw[kI.out,List.drop_eq_nil_of_le (by have:=HLEN.out;omega)];rfl
   have HR:Hid (ub b n last m.tok=res):=by
    unfold Hid;rw[← sD.out,hsn];simp
   have HT:=QH (nE m.tok A2 c2' last b n wr (HM.out.ql.below kS.out) fU.out.ql HNB.out.1 HNB.out.2);rw[HR.out]at HT;unfold gv gK at HT;have c2:=HAW.out.cell 2;have c3:=HAW.out.cell 3;have c4:=HAW.out.cell 4;have c5:=HAW.out.cell 5;have c6:=HAW.out.cell 6;have c7:=HAW.out.cell 7;have c8:=HAW.out.cell 8;have l0:=HLA.out.cell 0;have l1:=HLA.out.cell 1;have fC:=HAW.out.lt;have lB:=HLA.out.lt;simp only[zj,QA,QB,QC]at c2 c3 c4 c5 c6 c7 c8 l0 l1;clear hsn kI;go_wp2_with fail;refine HT.out.mono ?_;rintro e W4 ⟨rfl,hb4⟩;have zO:=QH (qc kS.out hb4);clear hb4 c2 c3 c4 c5 c6 c7 c8 l0 l1;go_wp2_with fail;go_ret;exact⟨rfl,zO.out⟩
theorem ql5(L:List UInt8)(z:Int)(W:World)(h0:0≤z)(h1:z≤9223372036854775807)(hs:L.length≤100000) :
    Calls prog 181 #[.string (str L),.slice (some ⟨W.heap.size,0,none⟩) 1 1] (W.alloc (.cells #[.int .i64 z] 3)) (fun e w'=>e=.returned (.string (str (L++ye z)))∧Below W.heap.size W w'):=by
 have h:=kR L (some ⟨W.heap.size,0,none⟩) 1 [z] (W.alloc (.cells #[.int .i64 z] 3)) (df W [z] (by intro x hx;simp only[List.mem_cons,List.not_mem_nil,or_false]at hx;subst hx;unfold qC;omega)) (by intro x hx;simp only[List.mem_cons,List.not_mem_nil,or_false]at hx;subst hx;exact h0) hs (by simp);refine h.mono ?_;rintro e w' ⟨rfl,hb⟩;exact⟨by simp[zh],qc ((Below.refl _ W).alloc (Nat.le_refl _) _) hb⟩
theorem q35(L:List UInt8)(z y:Int)(W:World)(h0:0≤z)(h1:z≤9223372036854775807)(h2:0≤y)(h3:y≤9223372036854775807)(hs:L.length≤100000) :
    Calls prog 181 #[.string (str L),.slice (some ⟨W.heap.size,0,none⟩) 2 2] (W.alloc (.cells #[.int .i64 z,.int .i64 y] 3)) (fun e w'=>e=.returned (.string (str (L++(ye z++ye y))))∧Below W.heap.size W w'):=by
 have h:=kR L (some ⟨W.heap.size,0,none⟩) 2 [z,y] (W.alloc (.cells #[.int .i64 z,.int .i64 y] 3)) (df W [z,y] (by intro x hx;simp only[List.mem_cons,List.not_mem_nil,or_false]at hx;unfold qC;rcases hx with rfl|rfl <;> omega)) (by intro x hx;simp only[List.mem_cons,List.not_mem_nil,or_false]at hx;rcases hx with rfl|rfl <;> assumption) hs (by simp);refine h.mono ?_;rintro e w' ⟨rfl,hb⟩;exact⟨by simp[zh],qc ((Below.refl _ W).alloc (Nat.le_refl _) _) hb⟩
theorem qcc(W:World)(l:List Nat)(h:∀z∈l,z<18446744073709551616)(t:TypeId):ql4 (W.alloc (.cells (l.map fun(n:Nat)=>Value.int .u64 (n:Int)).toArray t)) (some ⟨W.heap.size,0,none⟩) l:=fun i hi =>
 ⟨W.heap.size,0,rfl,by simp,by rw[Nat.zero_add,(qf.new W t _).cell i];simp[hi],h _ (List.getElem_mem hi)⟩
theorem q36(L:List UInt8)(g:Gd)(W:World)(hg:zZ g)(hs:L.length≤100000) :
    Calls prog 182 #[.string (str L),.slice (some ⟨W.heap.size,0,none⟩) 2 2] (W.alloc (.cells #[.int .u64 (g.1:Int),.int .u64 (g.2:Int)] 35)) (fun e w'=>e=.returned (.string (str (L++kj g)))∧Below W.heap.size W w'):=by
 have h:=qca L (some ⟨W.heap.size,0,none⟩) 2 [g.1,g.2] (W.alloc (.cells #[.int .u64 (g.1:Int),.int .u64 (g.2:Int)] 35)) (qcc W [g.1,g.2] (by intro x hx;simp only[List.mem_cons,List.not_mem_nil,or_false]at hx;rcases hx with rfl|rfl;exact hg.1;exact hg.2) _) hs (by simp);refine h.mono ?_;rintro e w' ⟨rfl,hb⟩;exact⟨by simp[vO,kj],qc ((Below.refl _ W).alloc (Nat.le_refl _) _) hb⟩
theorem qx9(L:List UInt8)(g y:Gd)(W:World)(hg:zZ g)(hy:zZ y)(hs:L.length≤100000) :
    Calls prog 182 #[.string (str L),.slice (some ⟨W.heap.size,0,none⟩) 4 4] (W.alloc (.cells #[.int .u64 (g.1:Int),.int .u64 (g.2:Int),.int .u64 (y.1:Int),.int .u64 (y.2:Int)] 35)) (fun e w'=>e=.returned (.string (str (L++(kj g++kj y))))∧Below W.heap.size W w'):=by
 have h:=qca L (some ⟨W.heap.size,0,none⟩) 4 [g.1,g.2,y.1,y.2] (W.alloc (.cells #[.int .u64 (g.1:Int),.int .u64 (g.2:Int),.int .u64 (y.1:Int),.int .u64 (y.2:Int)] 35)) (qcc W [g.1,g.2,y.1,y.2] (by intro x hx;simp only[List.mem_cons,List.not_mem_nil,or_false]at hx;rcases hx with rfl|rfl|rfl|rfl;exact hg.1;exact hg.2;exact hy.1;exact hy.2) _) hs (by simp);refine h.mono ?_;rintro e w' ⟨rfl,hb⟩;exact⟨by simp[vO,kj],qc ((Below.refl _ W).alloc (Nat.le_refl _) _) hb⟩
def tkP (t:Tk):List UInt8:=if t=zI then zo 0 else zo 1++(kj t.base++(kj t.target++(ye t.next++(ye t.all++zh t.ql))))
structure TkF(t:Tk):Prop where
 base:zZ t.base
 target:zZ t.target
 next:0≤t.next∧t.next≤9223372036854775807
 all:0≤t.all∧t.all≤9223372036854775807
 ql:∀z∈t.ql,0≤z
 few:t.ql.length≤100
theorem qap(L:List UInt8)(t:Tk)(A:Option Addr)(c:Nat)(w:World)(h:yE w A t.ql c)(ht:TkF t)(hs:L.length≤50000):Calls prog 184 #[.string (str L),.agg (gK t A c)] w (qpu (L++tkP t) w):=by
 have HT:=QH ht;have HS:=QH hs;have hb:=(Below.refl w.heap.size w).alloc (Nat.le_refl _) (.cells (gK t A c) 59);have ha:=qf.new w 59 (gK t A c);obtain⟨W,hW⟩:=QE (w.alloc (.cells (gK t A c) 59));rw[hW]at hb ha;have HI:=QH (h.below hb);have HN:=QH (nD t A c W HI.out (by have:=ht.few;omega));have HB:=QH hb;have HA:=QH ha;have a0:=ha.cell 0;have a1:=ha.cell 1;have a2:=ha.cell 2;have a3:=ha.cell 3;have a4:=ha.cell 4;have a5:=ha.cell 5;have a6:=ha.cell 6;have fC:=ha.lt;simp only[gK,QA,QB,QC]at a0 a1 a2 a3 a4 a5 a6;clear hb ha h hs ht;unfold gK at hW HN ⊢;go_enter func184,ntmps184;go_upto_region 1 with fail;try rw[hW]
 clear hW;go_wp2_with fail;refine HN.out.mono ?_;rintro e W1 ⟨rfl,hb1⟩;have qP:=QH (qc HB.out hb1);have fP:=QH (HA.out.below hb1);have HI1:=QH (HI.out.below hb1);clear hb1 a0 a1 a2 a3 a4 a5 a6 fC HN HA HI HB;by_cases h0:t=zI
 ·have HR:Hid (tkP t=ye 0):=by unfold Hid tkP;rw[if_pos h0];rfl
  rw[decide_eq_true h0];clear h0;go_wp2_with fail;refine(nC false W1).mono ?_;rintro e _ ⟨rfl,rfl⟩;dsimp only;go_wp2_with fail;refine(ql5 L 0 _ (by omega) (by omega) (by have:=HS.out;omega)).mono ?_;rintro e W2 ⟨rfl,hb2⟩;have qy:=QH (qc qP.out hb2);rw[← HR.out];clear hb2;go_wp2_with fail;go_ret;exact⟨rfl,qy.out⟩
 ·have HR:Hid (tkP t=ye 1++(kj t.base++(kj t.target++(ye t.next++(ye t.all++zh t.ql))))):=by unfold Hid tkP;rw[if_neg h0];rfl
  rw[decide_eq_false h0];clear h0;go_wp2_with fail;refine(nC true W1).mono ?_;rintro e _ ⟨rfl,rfl⟩;dsimp only;go_wp2_with fail;refine(ql5 L 1 _ (by omega) (by omega) (by have:=HS.out;omega)).mono ?_;rintro e W2 ⟨rfl,hb2⟩;have qy:=QH (qc qP.out hb2);have ha:=fP.out.below hb2;have ai:=QH ha;have HI2:=QH (HI1.out.below hb2);obtain⟨L1,hL1⟩:=QE (L++ye 1);have HL1:=QH hL1;have av:Hid (L1.length≤50009):=by
   unfold Hid;rw[← hL1,List.length_append];have:=HS.out;have:=qw (1:Int).toNat;unfold ye;omega
  rw[hL1];have a0:=ha.cell 0;have a1:=ha.cell 1;have a2:=ha.cell 2;have a3:=ha.cell 3;have fC:=ha.lt;simp only[gK,QA,QB,QC]at a0 a1 a2 a3;clear hb2 ha hL1;go_wp2_with fail;refine(qx9 L1 t.base t.target _ HT.out.base HT.out.target (by have:=av.out;omega)).mono ?_;rintro e W3 ⟨rfl,hb3⟩;have qV:=QH (qc qy.out hb3);have ha:=ai.out.below hb3;have bw:=QH ha;have HI3:=QH (HI2.out.below hb3);obtain⟨L2,hL2⟩:=QE (L1++(kj t.base++kj t.target));have mq:=QH hL2;have ur:Hid (L2.length≤50100):=by
   unfold Hid;rw[← hL2];have:=av.out;have:=qw t.base.1;have:=qw t.base.2;have:=qw t.target.1;have:=qw t.target.2;unfold kj;simp only[List.length_append];omega
  rw[hL2];have a4:=ha.cell 4;have a5:=ha.cell 5;have fC:=ha.lt;simp only[gK,QA,QB,QC]at a4 a5;clear hb3 ha hL2 a0 a1 a2 a3;go_wp2_with fail;refine(q35 L2 t.next t.all _ HT.out.next.1 HT.out.next.2 HT.out.all.1 HT.out.all.2 (by have:=ur.out;omega)).mono ?_;rintro e W4 ⟨rfl,hb4⟩;have zO:=QH (qc qV.out hb4);have ha:=bw.out.below hb4;have HI4:=QH (HI3.out.below hb4);obtain⟨L3,hL3⟩:=QE (L2++(ye t.next++ye t.all));have HL3:=QH hL3;have HS3:Hid (L3.length≤50200):=by
   unfold Hid;rw[← hL3];have:=ur.out;have:=qw t.next.toNat;have:=qw t.all.toNat;unfold ye;simp only[List.length_append];omega
  rw[hL3];have a6:=ha.cell 6;have fC:=ha.lt;simp only[gK,QA,QB,QC]at a6;clear hb4 ha hL3 a4 a5;go_wp2_with fail;refine(kR L3 A c t.ql W4 HI4.out.ints HT.out.ql (by have:=HS3.out;omega) (by have:=HT.out.few;omega)).mono ?_;rintro e W5 ⟨rfl,hb5⟩;have jx:=QH (qc zO.out hb5);have HE:Hid (L3++zh t.ql=L++tkP t):=by
   unfold Hid;rw[HR.out,← HL3.out,← mq.out,← HL1.out];simp only[List.append_assoc]
  rw[HE.out];clear hb5 a6 fC;go_wp2_with fail;go_ret;exact⟨rfl,jx.out⟩
end Go.Proofs.YtdagdllomphidaaGreatDoor.mt.pg
namespace Go.Proofs.YtdagdllomphidaaGreatDoor.wi
open _root_.Go.Proofs.Tryz Go.RowKit
end Go.Proofs.YtdagdllomphidaaGreatDoor.wi
namespace Go.Proofs.YtdagdllomphidaaGreatDoor.mt
open _root_.Go.Proofs.Tryz Go Go.RowKit ib wi
theorem ql6(z:Int):(ye z).length≤9:=by
 unfold ye zo;have:=jC z.toNat;simp only[List.length_cons];omega
theorem jo:∀l:List Int,(zh l).length≤9*l.length
 | []=>by simp[zh]
 | z::l=>by
  have h1:=ql6 z;have h2:=jo l;simp only[zh,List.flatMap_cons,List.length_append,List.length_cons]at h2 ⊢;omega
end Go.Proofs.YtdagdllomphidaaGreatDoor.mt
namespace Go.Proofs.YtdagdllomphidaaGreatDoor.mt
open _root_.Go.Proofs.Tryz Go Go.RowKit ib wi im
theorem qw (n:Nat):(zo n).length≤9:=by
 unfold zo;have:=jC n;simp only[List.length_cons];omega
theorem ql7(g:Gd):(kj g).length≤18:=by
 unfold kj;have:=qw g.1;have:=qw g.2;rw[List.length_append];omega
end Go.Proofs.YtdagdllomphidaaGreatDoor.mt
namespace Go.Proofs.YtdagdllomphidaaGreatDoor.mt
open _root_.Go.Proofs.Tryz Go Go.RowKit ib wi
end Go.Proofs.YtdagdllomphidaaGreatDoor.mt
namespace Go.Proofs.YtdagdllomphidaaGreatDoor
open _root_.Go.Proofs.Tryz Go Go.RowKit
section
variable {P:Program} {ops:Array Oper} {Q:Exit→Act→World→Prop} {a0:Act} {m:Nat} {ds:List Tmp} {I:(Nat→Bool)→(Nat→Value)→World→Prop}
end
end Go.Proofs.YtdagdllomphidaaGreatDoor
namespace Go.Proofs.YtdagdllomphidaaGreatDoor.mt
open _root_.Go.Proofs.Tryz Go Go.RowKit ib wi im
theorem qpx(x:Sp)(h:x.ql.length≤8):(spB x).length≤99:=by
 unfold spB;have h1:=ql7 x.g;have h2:=qw (if x.hid then 1 else 0);have h3:=jo x.ql;simp only[List.length_append];omega
theorem cZ:∀(l:List Sp),(∀x∈l,x.ql.length≤8)→(yQ l).length≤99*l.length
 | [],_=>by simp[yQ]
 | x::l,h=>by
  have h1:=qpx x (h x (by simp));have h2:=cZ l (fun y hy=>h y (by simp[hy]));simp only[yQ,List.flatMap_cons,List.length_append,List.length_cons]at h2 ⊢;omega
theorem qib(l:List Sp)(k:Nat)(h:k<l.length):yQ (l.take (k+1))=yQ (l.take k)++spB l[k]:=by
 unfold yQ;rw[List.take_succ_eq_append_getElem h,List.flatMap_append];simp
theorem qpy(b:Bool):zo (if b then 1 else 0)=ye (if b then 1 else 0):=by cases b <;> rfl
end Go.Proofs.YtdagdllomphidaaGreatDoor.mt
namespace Go.Proofs.YtdagdllomphidaaGreatDoor.mt.pg
open _root_.Go.Proofs.Tryz Go Go.RowKit ib wi im mt
structure qtM(m:Mt):Prop where
 live:∀z∈m.live,0≤z
 few:m.live.length≤8
 qa:∀s∈m.qa,zZ s.g∧s.ql.length≤8∧∀z∈s.ql,0≤z
 qxA:m.qa.length≤20
 tok:TkF m.tok
theorem qpz{m:Mt}(hB:mB m)(h:xi m m.live.length 1024=0):qtM m∧tkP m.tok=tkB m.tok:=by
 obtain⟨h1,h2,h3,h4⟩:=nd hB h;have ht:=h1.tok;unfold cG at ht;refine⟨⟨fun z hz=>(h1.live z hz).1,h3,fun s hs=>⟨(h1.qa s hs).1,by rw[(h1.qa s hs).2.1];exact h3,fun z hz=>((h1.qa s hs).2.2 z hz).1⟩,h4,?_⟩,?_⟩
 ·by_cases h0:m.tok.target=(0,0)
  ·rw[if_pos h0]at ht;rw[ht];exact⟨ng,ng,by unfold zI;simp,by unfold zI;simp,fun z hz=>absurd hz (by simp[zI]),by simp[zI]⟩
  ·rw[if_neg h0]at ht;obtain⟨a1,a2,a3,a4,a5,a6⟩:=ht;exact⟨a1,a2,by omega,by omega,fun z hz=>(a6 z hz).1,by omega⟩
 ·unfold tkP tkB;by_cases h0:m.tok.target=(0,0)
  ·rw[if_pos h0]at ht;rw[if_pos h0,if_pos ht]
  ·rw[if_neg h0,if_neg];intro e;exact h0 (by rw[e];rfl)
def qxB (L:List UInt8)(xs:List Sp)(w:World)(v x i:Value)(wr:World):Prop :=
 ∃k:Nat,k≤xs.length∧i=.int .i64 (k:Int)∧v=.string (str (L++yQ (xs.take k)))∧Below w.heap.size w wr
theorem jc (A0 A1 A2:Option Addr)(d0 d1 d2:Nat)(m:Mt)(w:World)(hm:MtL w A0 A1 A2 d0 d1 d2 m)(hf:qtM m):Calls prog 147 #[.agg (zj A0 A1 A2 d0 d1 d2 m)] w (qpu (zo m.live.length++(zh m.live++(zo m.qa.length++(yQ m.qa++tkP m.tok)))) w):=by
 have HF:=QH hf;have hb:=(Below.refl w.heap.size w).alloc (Nat.le_refl _) (.cells (zj A0 A1 A2 d0 d1 d2 m) 93);have ha:=qf.new w 93 (zj A0 A1 A2 d0 d1 d2 m);obtain⟨W,hW⟩:=QE (w.alloc (.cells (zj A0 A1 A2 d0 d1 d2 m) 93));rw[hW]at hb ha;have HM:=QH (hm.below hb);have HB:=QH hb;have HA:=QH ha;have a0:=ha.cell 0;have fC:=ha.lt;simp only[zj,QA,QB,QC]at a0;clear hb ha hm hf;have HNL:Hid (m.live.length≤8):=HF.out.few;have HNS:Hid (m.qa.length≤20):=HF.out.qxA;unfold zj at hW ⊢;go_enter func147,ntmps147;go_upto_region 1 with fail;try rw[hW]
 clear hW;go_wp2_with fail;have l0:=ql5 [] (m.live.length:Int) W (by omega) (by have:=HNL.out;omega) (by simp);refine l0.mono ?_;clear l0;rintro e W1 ⟨rfl,hb1⟩;have qP:=QH (qc HB.out hb1);have ha:=HA.out.below hb1;have fP:=QH ha;have HM1:=QH (HM.out.below hb1);obtain⟨L1,hL1⟩:=QE ([]++ye (m.live.length:Int));have HL1:Hid (L1=zo m.live.length):=by unfold Hid;rw[← hL1];simp[ye]
 rw[hL1];have a0:=ha.cell 0;have fC:=ha.lt;simp only[zj,QA,QB,QC]at a0;clear hb1 ha hL1 HM HA HB;go_wp2_with fail;refine(kR L1 A0 d0 m.live W1 HM1.out.live.ints HF.out.live (by rw[HL1.out];have:=qw m.live.length;omega) (by have:=HNL.out;omega)).mono ?_;rintro e W2 ⟨rfl,hb2⟩;have qy:=QH (qc qP.out hb2);have ha:=fP.out.below hb2;have ai:=QH ha;have HM2:=QH (HM1.out.below hb2);obtain⟨L2,hL2⟩:=QE (L1++zh m.live);have mq:Hid (L2=zo m.live.length++zh m.live):=by unfold Hid;rw[← hL2,HL1.out]
 have ur:Hid (L2.length≤81):=by
  unfold Hid;rw[mq.out,List.length_append];have:=qw m.live.length;have:=jo m.live;have:=HNL.out;omega
 rw[hL2];have a1:=ha.cell 1;have fC:=ha.lt;simp only[zj,QA,QB,QC]at a1;clear hb2 ha hL2 HM1 fP qP a0;go_wp2_with fail;refine(ql5 L2 (m.qa.length:Int) W2 (by omega) (by have:=HNS.out;omega) (by have:=ur.out;omega)).mono ?_;rintro e W3 ⟨rfl,hb3⟩;have qV:=QH (qc qy.out hb3);have ha:=ai.out.below hb3;have bw:=QH ha;have HM3:=QH (HM2.out.below hb3);obtain⟨L3,hL3⟩:=QE (L2++ye (m.qa.length:Int));have HL3:Hid (L3=zo m.live.length++(zh m.live++zo m.qa.length)):=by unfold Hid;rw[← hL3,mq.out];simp[ye]
 have HS3:Hid (L3.length≤90):=by
  unfold Hid;rw[← hL3,List.length_append];have:=qw (m.qa.length:Int).toNat;have:=ur.out;unfold ye;omega
 rw[hL3];have a1:=ha.cell 1;have fC:=ha.lt;simp only[zj,QA,QB,QC]at a1;clear hb3 ha hL3 HM2 ai qy;have fE:Hid ((yQ m.qa).length≤1980):=by
  unfold Hid;have:=cZ m.qa (fun x hx=>(HF.out.qa x hx).2.1);have:=HNS.out;omega
 have HSK:Hid (∀k,k≤m.qa.length→(yQ (m.qa.take k)).length≤1980):=fun k hk=>by
  have:=cZ (m.qa.take k) (fun x hx=>(HF.out.qa x (List.mem_of_mem_take hx)).2.1);have:=HNS.out;have h3:(m.qa.take k).length≤20:=by simp only[List.length_take];omega
  omega
 obtain⟨len,hlen⟩:=QE m.qa.length;have HLEN:=QH hlen;rw[hlen]at a1 HNS HSK;clear hlen;go_wp2_with fail;clear a1;go_loopw [3,5,24] (fun v x i wr=>qxB L3 m.qa W3 v x i wr) (fun _ _ i _=>len-(intOf i).toNat);case atStart=>exact⟨0,Nat.zero_le _,rfl,by simp[yQ],Below.refl _ _⟩
 case round =>
  obtain⟨k,hk,rfl,rfl,lA⟩:=hrel;have kS:=QH lA;have HAW:=QH (bw.out.below lA);have HMW:=QH (HM3.out.below lA);rw[HLEN.out]at hk;clear lA;obtain⟨P,hP⟩:=QE (L3++yQ (m.qa.take k));have HP:=QH hP;have lz:Hid (P.length≤2100):=by
   unfold Hid;rw[← hP,List.length_append];have:=HS3.out;have:=HSK.out k hk;omega
  rw[hP];clear hP;by_cases hlt:k<len
  ·have jD:(k:Int)<(len:Int):=by omega
   have q98:k≤20:=by have:=HNS.out;omega
   have hkm:k<m.qa.length:=by rw[HLEN.out];exact hlt
   obtain⟨bb,bo,B,cb,hA1,hlb,e0,e1,e2,e3,wu,hgd⟩:=HMW.out.qa k hkm;have hsf:=HF.out.qa _ (List.getElem_mem hkm);have kI:=QH (qib m.qa k hkm);obtain⟨x,hx⟩:=QE (m.qa[k]);rw[hx]at e0 e1 e2 e3 wu hgd hsf kI;have HSF:=QH hsf;subst hA1;have HSI:=QH wu;clear wu hgd hx hsf;obtain⟨W4,rI⟩:=QE (wr.alloc (.cells (snC x B cb) 145));have hb4:Below wr.heap.size wr W4:=by rw[← rI];exact(Below.refl _ wr).alloc (Nat.le_refl _) _
   have hS:qf W4 wr.heap.size 145 (snC x B cb):=by rw[← rI];exact qf.new _ _ _
   have zO:=QH (qc kS.out hb4);have HI4:=QH (HSI.out.below hb4);have HS4:=QH hS;have x0:=hS.cell 0;have x1:=hS.cell 1;have hlx:=hS.lt;simp only[snC,QA,QB,QC]at x0 x1;unfold snC at rI;clear hS hb4 HSI;go_upto_region 7 with fail;try rw[rI]
   clear rI e0 e1 e2 e3;obtain⟨gs,hgs⟩:=QE wr.heap.size;rw[hgs]at x0 x1 hlx HS4;try rw[hgs]
   clear hgs;go_wp2_with fail;refine(q36 P x.g W4 HSF.out.1 (by have:=lz.out;omega)).mono ?_;rintro e W5 ⟨rfl,hb5⟩;have jx:=QH (qc zO.out hb5);have HI5:=QH (HI4.out.below hb5);have hS:=HS4.out.below hb5;have HS5:=QH hS;obtain⟨P1,hP1⟩:=QE (P++kj x.g);have HP1:=QH hP1;have qxD:Hid (P1.length≤2200):=by
    unfold Hid;rw[← hP1,List.length_append];have:=lz.out;have:=qw x.g.1;have:=qw x.g.2;unfold kj;simp only[List.length_append];omega
   rw[hP1];have x3:=hS.cell 3;have hlx:=hS.lt;simp only[snC,QA,QB,QC]at x3;clear hb5 hS hP1 x0 x1 HS4 HI4;go_wp2_with fail;refine(nC x.hid W5).mono ?_;rintro e _ ⟨rfl,rfl⟩;obtain⟨fl,gD⟩:=QE ((if x.hid=true then 1 else 0):Int);rw[gD];have HFL:=QH gD;have hfb:0≤fl∧fl≤1:=by rw[← gD];split <;> omega
   have HFB:=QH hfb;clear gD hfb;go_wp2_with fail;refine(ql5 P1 fl _ HFB.out.1 (by have:=HFB.out.2;omega) (by have:=qxD.out;omega)).mono ?_;rintro e W6 ⟨rfl,kG⟩;have gU:=QH (qc jx.out kG);have HI6:=QH (HI5.out.below kG);have hS:=HS5.out.below kG;obtain⟨P2,hP2⟩:=QE (P1++ye fl);have HP2:=QH hP2;have q39:Hid (P2.length≤2300):=by
    unfold Hid;rw[← hP2,List.length_append];have:=qxD.out;have:=qw fl.toNat;unfold ye;omega
   rw[hP2];have x2:=hS.cell 2;have hlx:=hS.lt;simp only[snC,QA,QB,QC]at x2;clear kG hS hP2 x3 HS5 HI5;go_wp2_with fail;refine(kR P2 B cb x.ql W6 HI6.out.ints HSF.out.2.2 (by have:=q39.out;omega) (by have:=HSF.out.2.1;omega)).mono ?_;rintro e W7 ⟨rfl,rJ⟩;have HB7:=QH (qc gU.out rJ);have HE:Hid (P2++zh x.ql=L3++yQ (m.qa.take (k+1))):=by
    unfold Hid;rw[kI.out,← HP2.out,← HP1.out,← HP.out,← HFL.out];unfold spB;rw[qpy];simp only[List.append_assoc]
   rw[HE.out];clear rJ x2 hlx;go_wp2_with fail;go_roundw;case rel=>exact⟨k+1,by rw[HLEN.out];omega,by go_num,rfl,HB7.out⟩
   case measure=>simp[intOf];omega
  ·have jD:¬ (k:Int)<(len:Int):=by omega
   obtain rfl:k=len:=by omega
   have HE:Hid (P=L3++yQ m.qa):=by
    unfold Hid;rw[← HP.out,List.take_of_length_le (by have:=HLEN.out;omega)]
   have ha:=HAW.out;have a2:=ha.cell 2;have a3:=ha.cell 3;have a4:=ha.cell 4;have a5:=ha.cell 5;have a6:=ha.cell 6;have a7:=ha.cell 7;have a8:=ha.cell 8;have fC:=ha.lt;simp only[zj,QA,QB,QC]at a2 a3 a4 a5 a6 a7 a8;have HT:=QH (qap P m.tok A2 d2 wr HMW.out.ql HF.out.tok (by have:=lz.out;omega));unfold gK at HT;clear ha HP;go_wp2_with fail;refine HT.out.mono ?_;rintro e W4 ⟨rfl,hb4⟩;have zO:=QH (qc (qc qV.out kS.out) hb4);have HE2:Hid (P++tkP m.tok=zo m.live.length++(zh m.live++(zo m.qa.length++(yQ m.qa++tkP m.tok)))):=by
    unfold Hid;rw[HE.out,HL3.out];simp only[List.append_assoc]
   rw[HE2.out];clear hb4 a2 a3 a4 a5 a6 a7 a8 HT;go_wp2_with fail;go_ret;exact⟨rfl,zO.out⟩
theorem qgE(v:Value)(m:Mt)(w:World)(h:qag w v m)(hs:mtS m):Calls prog 93 #[v] w (qxa (gB m) w):=by
 have hmB:=h.mB;obtain⟨A0,A1,A2,d0,d1,d2,rfl,hm⟩:=h;have HMB:=QH hmB;have fU:=QH hs;have hb:=(Below.refl w.heap.size w).alloc (Nat.le_refl _) (.cells (zj A0 A1 A2 d0 d1 d2 m) 93);have ha:=qf.new w 93 (zj A0 A1 A2 d0 d1 d2 m);obtain⟨W,hW⟩:=QE (w.alloc (.cells (zj A0 A1 A2 d0 d1 d2 m) 93));rw[hW]at hb ha;have HM:=QH (hm.below hb);have HB:=QH hb;have HA:=QH ha;have a0:=ha.cell 0;have a1:=ha.cell 1;have a2:=ha.cell 2;have a3:=ha.cell 3;have a4:=ha.cell 4;have a5:=ha.cell 5;have a6:=ha.cell 6;have a7:=ha.cell 7;have a8:=ha.cell 8;have fC:=ha.lt;simp only[zj,QA,QB,QC]at a0 a1 a2 a3 a4 a5 a6 a7 a8;have HC:=QH (sM (.agg (zj A0 A1 A2 d0 d1 d2 m)) m (m.live.length:Int) 1024 W ⟨_,_,_,_,_,_,rfl,HM.out⟩ hs (by unfold qC;have:=hs.live;omega) (by unfold qC;omega));clear hb ha hm hs hmB;have qp0:Hid (gB m=if xi m m.live.length 1024≠0 then([],xi m m.live.length 1024)else if 48<nsec (zy m).length then([],3)else(zy m,0)):=rfl;have HPF:Hid (xi m m.live.length 1024=0→qtM m∧tkP m.tok=tkB m.tok):=fun hq=>qpz HMB.out hq;obtain⟨er,her⟩:=QE (xi m m.live.length 1024);rw[her]at HC qp0 HPF;unfold zj at hW HC ⊢;clear her;go_enter func93,ntmps93;go_upto_region 1 with fail;try rw[hW]
 clear hW;go_wp2_with fail;refine HC.out.mono ?_;rintro e W1 ⟨rfl,hb1⟩;have qP:=QH (qc HB.out hb1);have HM1:=QH (HM.out.below hb1);have ha:=HA.out.below hb1;clear hb1 HC a0 a1 a2 a3 a4 a5 a6 a7 a8 fC;by_cases he:er=0
 ·subst he;obtain⟨hpf,aV⟩:=HPF.out rfl;have HPU:=QH (jc A0 A1 A2 d0 d1 d2 m W1 HM1.out hpf);have qxE:Hid (zo m.live.length++(zh m.live++(zo m.qa.length++(yQ m.qa++tkP m.tok)))=zy m):=by unfold Hid;rw[aV];rfl
  rw[qxE.out]at HPU;have HLB:Hid ((zy m).length≤100000):=by
   unfold Hid;rw[← qxE.out];have t1:=cZ m.qa (fun x hx=>(hpf.qa x hx).2.1);have t2:=hpf.qxA;have t3:=hpf.few;have t4:=qw m.live.length;have t5:=jo m.live;have t6:=qw m.qa.length;have t7:(tkP m.tok).length≤1000:=by
    unfold tkP;split
    ·have:=qw 0;omega
    ·have:=qw 1;have:=qw m.tok.base.1;have:=qw m.tok.base.2;have:=qw m.tok.target.1;have:=qw m.tok.target.2;have:=qw m.tok.next.toNat;have:=qw m.tok.all.toNat;have:=jo m.tok.ql;have:=hpf.tok.few;unfold kj ye;simp only[List.length_append];omega
   simp only[List.length_append];omega
  obtain⟨L,hL⟩:=QE (zy m);rw[hL]at HPU HLB qp0;have ry:Hid (gB m=qhU L):=by unfold Hid;rw[qp0.out,if_neg (by simp)];rfl
  have a0:=ha.cell 0;have a1:=ha.cell 1;have a2:=ha.cell 2;have a3:=ha.cell 3;have a4:=ha.cell 4;have a5:=ha.cell 5;have a6:=ha.cell 6;have a7:=ha.cell 7;have a8:=ha.cell 8;have fC:=ha.lt;simp only[zj,QA,QB,QC]at a0 a1 a2 a3 a4 a5 a6 a7 a8;unfold zj at HPU;clear hpf aV hL ha;go_wp2_with fail;refine HPU.out.mono ?_;rintro e W2 ⟨rfl,hb2⟩;have qy:=QH (qc qP.out hb2);clear hb2 a0 a1 a2 a3 a4 a5 a6 a7 a8 fC;go_wp2_with fail;refine(qpv L W2 HLB.out).mono ?_;rintro e _ ⟨rfl,rfl⟩;rw[← ry.out];go_wp2_with fail;go_ret2;exact⟨rfl,qy.out⟩
 ·have hne:(er != 0)=true:=by simpa using he
  have HR:Hid (gB m=([],er)):=by unfold Hid;rw[qp0.out,if_pos he]
  clear he ha;go_wp2_with fail;go_ret2;exact⟨by rw[HR.out];rfl,qP.out⟩
end Go.Proofs.YtdagdllomphidaaGreatDoor.mt.pg
namespace Go.Proofs.YtdagdllomphidaaGreatDoor.mt.pg
open _root_.Go.Proofs.Tryz Go Go.RowKit Go.Proofs.YtdagdllomphidaaGreatDoor.ib Go.Proofs.YtdagdllomphidaaGreatDoor.wi Go.Proofs.YtdagdllomphidaaGreatDoor.im Go.Proofs.YtdagdllomphidaaGreatDoor.mt
theorem fV {fn:Func}{p q:Tmp}{ty:TypeId}(h:fn.results = #[.cell p ty,.tmp q])(tmps:Array Value)(P:Program)(w:World)(a:Addr)(v1 v2:Value)
    (hp:tmps.getD p undef=.pointer (some a)) (hq:tmps.getD q undef=v2) (h1:(loadVar ty a).run P w=.ok v1 w):(results fn tmps).run P w=.ok (.tuple #[v1,v2]) w:=by
 simp only[results,h];simp only[Array.getD_eq_getD_getElem?]at hp hq;simp[Sem.run_bind,Result.andThen,asAddr,hp,hq,h1]
end Go.Proofs.YtdagdllomphidaaGreatDoor.mt.pg
namespace Go.Proofs.YtdagdllomphidaaGreatDoor.mt
open _root_.Go.Proofs.Tryz Go Go.RowKit Go.Proofs.YtdagdllomphidaaGreatDoor.ib
end Go.Proofs.YtdagdllomphidaaGreatDoor.mt
namespace Go.Proofs.YtdagdllomphidaaGreatDoor.dk
abbrev Bt:=List UInt8
abbrev qG:=List (Option Bt)
def zz:Bt:=List.replicate 32 0
def rep (c:UInt8)(n:Nat):Bt:=List.replicate n c
def gG (c:UInt8):Bt:=if c.toNat≤250 then rep c 32 else rep c (c.toNat%31)
theorem qX:zz.length=32:=by simp[zz]
def look (s:qG)(k:Int):Option Bt:=if 0≤k then(s[k.toNat]?).getD none else none
def put (s:qG)(k:Nat)(v:Bt):qG:=s.set k (some v)
def cnt (s:qG):Nat:=s.countP Option.isSome
theorem nG (s:qG)(k:Nat):look s (k:Int)=(s[k]?).getD none:=by simp[look]
theorem zE (s:qG)(k:Nat)(o:Option Bt)(h:k<s.length):look (s.set k o) (k:Int)=o:=by
 rw[nG,List.getElem?_set_self h];rfl
theorem zT (s:qG)(k:Nat)(j:Int)(o:Option Bt)(h:j≠(k:Int)):look (s.set k o) j=look s j:=by
 unfold look;split
 ·rw[List.getElem?_set_ne (by omega)]
 ·rfl
theorem qgF(s:qG)(k:Nat)(u:Bt)(h:k<s.length)(hx:s[k]=some u):1≤cnt s :=
 List.countP_pos_iff.2 ⟨_,List.getElem_mem h,by rw[hx];rfl⟩
theorem wG (s:qG)(k:Nat)(v:Bt)(h:k<s.length):cnt (s.set k (some v))=if (look s (k:Int)).isSome then cnt s else cnt s+1:=by
 unfold cnt;rw[List.countP_set h,nG,List.getElem?_eq_getElem h];cases hx:s[k]with
 | none=>simp
 | some u =>
  have hle:=qgF s k u h hx;unfold cnt at hle;simp;omega
theorem qar(s:qG)(k:Nat)(h:k<s.length):cnt (s.set k none)+(if (look s (k:Int)).isSome then 1 else 0)=cnt s:=by
 unfold cnt;rw[List.countP_set h,nG,List.getElem?_eq_getElem h];cases hx:s[k]with
 | none=>simp
 | some u =>
  have hle:=qgF s k u h hx;unfold cnt at hle;simp;omega
theorem qas(s:qG):cnt s≤s.length:=List.countP_le_length
structure DD where
 room:Int
 base:qG
 more:List (Nat × Bt)
 on:Bool
 qp:Int
def qU (s:qG)(l:List (Nat × Bt)):qG:=l.foldl (fun s w=>put s w.1 w.2) s
theorem xc:∀(l:List (Nat × Bt)) (s:qG),(qU s l).length=s.length
 | [],_=>rfl
 | w::l,s=>by rw[qU,List.foldl_cons,← qU,xc l];simp[put]
theorem fW (s:qG)(w:Nat × Bt)(l:List (Nat × Bt)):qU s (w::l)=qU (put s w.1 w.2) l:=rfl
theorem fX (s:qG)(l:List (Nat × Bt))(w:Nat × Bt):qU s (l++[w])=put (qU s l) w.1 w.2:=by simp[qU]
theorem jq (s:qG)(l r:List (Nat × Bt)):qU s (l++r)=qU (qU s l) r:=by simp[qU]
def DD.n (d:DD):Nat:=d.base.length
def DD.now (d:DD):qG:=qU d.base d.more
theorem DD.ji(d:DD):d.now.length=d.n:=xc _ _
def DD.used(d:DD):Nat:=cnt d.now
def DD.has (d:DD)(at_:Int):Bool:=decide (0≤at_)&&decide (at_<(d.n:Int))
structure DD.ok(d:DD)(most:Nat):Prop where
 n0:1≤d.n
 n1:d.n≤1024
 qxF:0≤d.room
 qxG:d.room≤9223372036854775807
 qgG:0≤d.qp
 qgH:d.qp≤9223372036854775807
 qce:d.more.length≤most
 at1:∀w∈d.more,w.1<d.n∧w.2.length=32
 qrR:∀v,some v∈d.base→v.length=32
theorem DD.ok.mono{d:DD}{m m':Nat}(h:d.ok m)(hm:m≤m'):d.ok m':={ h with qce:=Nat.le_trans h.qce hm }
theorem mem_set{s:qG}{k:Nat}{o:Option Bt}{v:Bt}(h:some v∈s.set k o):some v∈s∨o=some v:=by
 rcases List.mem_or_eq_of_mem_set h with h|h
 ·exact .inl h
 ·exact .inr h.symm
theorem dy {l:List (Nat × Bt)}:∀ {s:qG},(∀v,some v∈s→v.length=32)→(∀w∈l,w.2.length=32)→∀v,some v∈qU s l→v.length=32:=by
 induction l with
 | nil=>intro s h _ v hv;exact h v hv
 | cons w l ih =>
  intro s h hl v hv;refine ih (s:=put s w.1 w.2) (fun u hu=>?_) (fun x hx=>hl x (by simp[hx])) v hv;rcases mem_set hu with h' | h'
  ·exact h u h'
  ·injection h' with h';subst h';exact hl w (by simp)
theorem DD.ok.qxH{d:DD}{m:Nat}(h:d.ok m):∀v,some v∈d.now→v.length=32:=dy h.qrR (fun w hw=>(h.at1 w hw).2)
theorem ql9{s:qG}{k:Int}{v:Bt}(h:look s k=some v):some v∈s:=by
 unfold look at h;split at h
 ·cases hx:s[k.toNat]? with
  | none=>rw[hx]at h;simp at h
  | some o=>rw[hx]at h;simp at h;subst h;exact List.mem_of_getElem? hx
 ·cases h
theorem DD.ok.sN{d:DD}{m:Nat}(h:d.ok m){k:Int}{v:Bt}(hv:look d.now k=some v):v.length=32:=h.qxH v (ql9 hv)
def fY:qG→List (Nat × Bt)→List (Nat × Bt × Bt × Bool)
 | _,[]=>[]
 | s,(k,v)::r=>(k,v,(look s (k:Int)).getD zz,(look s (k:Int)).isSome)::fY (put s k v) r
theorem sO:∀(l:List (Nat × Bt)) (s:qG) (k:Nat) (v:Bt),
    fY s (l++[(k,v)])=fY s l++[(k,v,(look (qU s l) (k:Int)).getD zz,(look (qU s l) (k:Int)).isSome)]
 | [],s,k,v=>rfl
 | (j,u)::r,s,k,v=>by
  show _::fY (put s j u) (r++[(k,v)])=_;rw[sO r];rfl
def stay (l:List (Nat × Bt))(keep:List Bool):List (Nat × Bt) :=
 match l,keep with
 | w::l,b::keep=>(if b then[w]else[])++stay l keep
 | _,_=>[]
theorem qlA(l:List (Nat × Bt)):stay l []=[]:=by cases l <;> rfl
theorem nH:∀(l:List (Nat × Bt)) (keep:List Bool) (w:Nat × Bt),w∈stay l keep→w∈l
 | [],keep,w,h=>by cases keep <;> simp[stay]at h
 | x::l,[],w,h=>by simp[stay]at h
 | x::l,b::keep,w,h=>by
  simp only[stay,List.mem_append]at h;rcases h with h|h
  ·cases b <;> simp at h;simp[h]
  ·exact List.mem_cons_of_mem _ (nH l keep w h)
def DD.new (qp1:Nat)(room:Int):DD:={ room:=room,base:=List.replicate qp1 none,more:=[],on:=true,qp:=0 }
def DD.off (d:DD):DD:={ d with on:=false,qp:=0 }
def DD.qxI (d:DD)(keep:List Bool):DD:=if d.on then d else { d with base:=qU d.base (stay d.more keep),more:=[],on:=true }
def DD.oper(d:DD):DD:=if d.qp=1 then d.off else if 1<d.qp then { d with qp:=d.qp-1 }else d
def DD.write(d:DD)(at_:Int)(data:Bt):Int × DD :=
 if d.on=false then(6,d)
 else if d.has at_=false∨data.length≠32 then(2,d)
 else if (look d.now at_).isSome=false∧d.room≤(d.used:Int)then(7,d)
 else if d.oper.on=false then(6,d.oper)
 else(0,{ d.oper with more:=d.more++[(at_.toNat,data)] })
def DD.flush(d:DD):Int × DD :=
 if d.on=false then(6,d)
 else if d.oper.on=false then(6,d.oper)
 else(0,{ d.oper with base:=d.now,more:=[] })
def DD.read(d:DD)(at_:Int):Bt × Int :=
 if d.on=false then([],6)
 else if d.has at_=false then([],2)
 else((look d.now at_).getD zz,0)
def fresh (s:qG):List Int→List Int→List Int
 | acc,[]=>acc
 | acc,x::r=>if (look s x).isSome || acc.contains x then fresh s acc r else fresh s (acc++[x]) r
def DD.fits(d:DD)(l:List Int):Bool :=
 l.all d.has&&(decide ((fresh d.now [] l).length=0) || decide (((fresh d.now [] l).length:Int)≤d.room-(d.used:Int)))
end Go.Proofs.YtdagdllomphidaaGreatDoor.dk
namespace Go.Proofs.YtdagdllomphidaaGreatDoor.dk
open _root_.Go.Proofs.Tryz Go Go.RowKit
abbrev D1:=DataW Unit
def qlB:Value→D1
 | .int k a=>.lit (.int k a)
 | _=>.nil
def sP:Value→Option (D1 × List MemPlace)
 | .agg cs=>some (.agg (cs.toList.map qlB),[])
 | _=>none
def ed (v:Bt):Value:=.agg (Lib.byteCells v).toArray
def qeJ (v:Bt):D1:=.agg ((Lib.byteCells v).map qlB)
theorem nI (v:Bt):sP (ed v)=some (qeJ v,[]):=by simp[sP,ed,qeJ]
theorem qcf:∀(l:List Value) (v:Bt),l.map qlB=(Lib.byteCells v).map qlB→l=Lib.byteCells v
 | [],[],_=>rfl
 | x::l,[],h=>by simp[Lib.byteCells]at h
 | [],b::v,h=>by simp[Lib.byteCells]at h
 | x::l,b::v,h=>by
  simp only[Lib.byteCells,List.map_cons,List.cons.injEq]at h ⊢;refine⟨?_,qcf l v h.2⟩;have h1:=h.1;cases x <;> simp[qlB]at h1;rw[h1.1,h1.2]
theorem sQ {x:Value}{v:Bt}{ps:List MemPlace}(h:sP x=some (qeJ v,ps)):x=ed v:=by
 cases x <;> simp[sP,qeJ]at h;rename_i cs;have:=qcf cs.toList v (by simpa using h.1);rw[ed,← this]
theorem qp2:ed zz=.agg #[Value.int IntKind.u8 0,Value.int IntKind.u8 0,Value.int IntKind.u8 0,Value.int IntKind.u8 0,Value.int IntKind.u8 0,Value.int IntKind.u8 0,Value.int IntKind.u8 0,Value.int IntKind.u8 0,Value.int IntKind.u8 0,Value.int IntKind.u8 0,Value.int IntKind.u8 0,Value.int IntKind.u8 0,Value.int IntKind.u8 0,Value.int IntKind.u8 0,Value.int IntKind.u8 0,Value.int IntKind.u8 0,Value.int IntKind.u8 0,Value.int IntKind.u8 0,Value.int IntKind.u8 0,Value.int IntKind.u8 0,Value.int IntKind.u8 0,Value.int IntKind.u8 0,Value.int IntKind.u8 0,Value.int IntKind.u8 0,Value.int IntKind.u8 0,Value.int IntKind.u8 0,Value.int IntKind.u8 0,Value.int IntKind.u8 0,Value.int IntKind.u8 0,Value.int IntKind.u8 0,Value.int IntKind.u8 0,Value.int IntKind.u8 0]:=rfl
def xd (w:World)(m:Nat)(s:qG):Prop :=
 ∃D:D1,w.ownsMap prog 3 sP m (Maps.size D) D∧(∀k:Int,Maps.has D (.int .i64 k)=(look s k).isSome) ∧
  (∀(k:Int) v,look s k=some v→∀z,D.atKey (.int .i64 k) z=qeJ v)∧Maps.size D=cnt s
theorem fZ {w:World}{b n:Nat}{D:D1}{P:Program}{k:TypeId}{R:Value→Option (D1 × List MemPlace)}(h:w.ownsMap P k R b n D):w.ownsMap P k R b (Maps.size D) D:=by
 obtain⟨es,clock,hb,F,_,rfl⟩:=h;exact⟨es,clock,hb,F,by simp[Maps.size,length_sorted],rfl⟩
theorem xd.lt{w:World}{m:Nat}{s:qG}(h:xd w m s):m<w.heap.size:=by
 obtain⟨D,h1,_⟩:=h;exact h1.lt
theorem xd.of_block{w w':World}{m:Nat}{s:qG}(h:xd w m s)(hb:w'.heap[m]?=w.heap[m]?):xd w' m s:=by
 obtain⟨D,⟨es,clock,h1,h2⟩,h3⟩:=h;exact⟨D,⟨es,clock,hb.trans h1,h2⟩,h3⟩
theorem xd.made(w:World)(n:Nat):xd (w.alloc (.map #[] 0)) w.heap.size (List.replicate n none):=by
 have hl:∀k:Int,look (List.replicate n none) k=none:=by
  intro k;unfold look;split
  ·simp only[List.getElem?_replicate];split <;> rfl
  ·rfl
 refine⟨.map [],World.ownsMap_made w prog 3 sP,fun k=>by rw[hl];rfl,fun k v h=>(by rw[hl]at h;cases h),?_⟩;simp[Maps.size,cnt,List.countP_replicate]
theorem qeK(k:Int):WideAt.IsKeyLit (Lit.int .i64 k):=trivial
abbrev keyed:Go.Maps.Keyed prog 3:=Go.Maps.int_keyed underlying3
theorem qp3(k:Int)(h0 : -9223372036854775808≤k)(h1:k≤9223372036854775807):(Lit.int .i64 k).wf=true:=WalkArith.wf_i64 (by omega)
theorem xd.find{w:World}{m:Nat}{s:qG}(h:xd w m s)(k:Int)(h0 : -9223372036854775808≤k)(h1:k≤9223372036854775807) :
    (Instr.lookup 104 (.map (some m)) (.int .i64 k) true).run prog w=.ok (.tuple #[ed ((look s k).getD zz),.bool (look s k).isSome]) w ∧
    (Instr.lookup 104 (.map (some m)) (.int .i64 k) false).run prog w=.ok (ed ((look s k).getD zz)) w:=by
 obtain⟨D,hown,hh,ha,_⟩:=h;have hkey:=Go.Maps.keyOf_int_mk (P:=prog) (k:=3) underlying3 (qp3 k h0 h1);have hz:(zeroValue 123).run prog w=.ok (ed zz) w:=by rw[qp2];exact zeroValue123 w
 have hat:D.atKey (.int .i64 k) (qeJ zz)=qeJ ((look s k).getD zz):=by
  cases hx:look s k with
  | none=>exact Maps.atKey_of_not_has (by rw[hh,hx];rfl) _
  | some v=>exact ha k v hx _
 obtain⟨v,ps,hrun,hv⟩:=hown.look_ok keyed underlying104 hz (nI zz) hkey;obtain⟨v2,ps2,lu,hv2⟩:=hown.lookup keyed underlying104 hz (nI zz) hkey;rw[hat]at hv hv2;rw[sQ hv,hh]at hrun;rw[sQ hv2]at lu;exact⟨hrun,lu⟩
theorem xd.len{w:World}{m:Nat}{s:qG}(h:xd w m s)(ty:TypeId):(Builtin.len_ #[104] ty #[.map (some m)]).run prog w=.ok (.int .i64 (cnt s:Int)) w:=by
 obtain⟨D,hown,_,_,hc⟩:=h;rw[← hc];exact hown.len underlying104 ty
theorem nJ {a b:Int}(h:a≠b):(Lit.int .i64 a)≠Lit.int .i64 b:=fun e=>h (by injection e)
theorem xd.store{w:World}{m:Nat}{s:qG}(h:xd w m s)(k:Nat)(v:Bt)(hk:k<s.length)(h1:s.length≤1024) :
    ∃w',(Instr.mapUpdate 104 (.map (some m)) (.int .i64 (k:Int)) (ed v)).run prog w=.ok () w'∧xd w' m (put s k v)∧w.mapTurned w' m:=by
 obtain⟨D,hown,hh,ha,hc⟩:=h;have hkey:=Go.Maps.keyOf_int_mk (P:=prog) (k:=3) underlying3 (qp3 (k:Int) (by omega) (by omega));have hti:=hown.tidy keyed;have hcl:=qas s;obtain⟨w',hrun,r1,r2⟩:=hown.store keyed underlying104 (by unfold maxLen;omega) hkey (nI v);refine⟨w',hrun,⟨_,fZ r1,?_,?_,?_⟩,r2⟩
 ·intro j;by_cases e:j=(k:Int)
  ·subst e;rw[Maps.has_put_same hti.isMap (qeK _),put,zE _ _ _ hk];rfl
  ·rw[Maps.has_put_other (nJ e),put,zT _ _ _ _ e,hh]
 ·intro j u hu z;by_cases e:j=(k:Int)
  ·subst e;rw[put,zE _ _ _ hk]at hu;injection hu with hu
   subst hu;exact Maps.atKey_put_same hti.isMap (qeK _) _ _
  ·rw[put,zT _ _ _ _ e]at hu;rw[Maps.atKey_put_other (nJ e)];exact ha j u hu z
 ·rw[Maps.size_put hti,put,wG _ _ _ hk,hh,hc]
theorem xd.drop{w:World}{m:Nat}{s:qG}(h:xd w m s)(k:Nat)(hk:k<s.length)(h1:s.length≤1024)(ty:TypeId) :
    ∃w',(Builtin.delete_ #[104,3] ty #[.map (some m),.int .i64 (k:Int)]).run prog w=.ok (.tuple #[]) w'∧xd w' m (s.set k none)∧w.mapTurned w' m:=by
 obtain⟨D,hown,hh,ha,hc⟩:=h;have hkey:=Go.Maps.keyOf_int_mk (P:=prog) (k:=3) underlying3 (qp3 (k:Int) (by omega) (by omega));have hti:=hown.tidy keyed;obtain⟨w',hrun,r1,r2⟩:=hown.drop keyed underlying104 hkey ty;refine⟨w',hrun,⟨_,fZ r1,?_,?_,?_⟩,r2⟩
 ·intro j;by_cases e:j=(k:Int)
  ·subst e;rw[Maps.has_del_same,zE _ _ _ hk];rfl
  ·rw[Maps.has_del_other (nJ e),zT _ _ _ _ e,hh]
 ·intro j u hu z;by_cases e:j=(k:Int)
  ·subst e;rw[zE _ _ _ hk]at hu;cases hu
  ·rw[zT _ _ _ _ e]at hu;rw[Maps.atKey_del_other (nJ e)];exact ha j u hu z
 ·have g1:=Maps.size_del (k:=.int .i64 (k:Int)) hti;have g2:=qar s k hk;rw[hh]at g1;omega
def qf (w:World)(g:Nat)(t:TypeId)(cs:Array Value):Prop:=w.heap[g]?=some (.cells cs t (0,0))
section
variable {w w':World} {g:Nat} {t:TypeId} {cs:Array Value}
theorem qf.lt(h:qf w g t cs):g<w.heap.size:=by
 unfold qf at h;exact(Array.getElem?_eq_some_iff.1 h).1
theorem qf.cell(h:qf w g t cs)(i:Nat):w.cell? ⟨g,i,none⟩=cs[i]? :=cell_of_row w g i cs t (0,0) h
theorem qf.frozen(h:qf w g t cs)(i:Nat):w.frozen? ⟨g,i,none⟩=false:=by
 unfold qf at h;simp[World.frozen?,h]
theorem qf.new(w:World)(t:TypeId)(cs:Array Value):qf (w.alloc (.cells cs t)) w.heap.size t cs:=heap_alloc_new w _
theorem qf.of_block(h:qf w g t cs)(hb:w'.heap[g]?=w.heap[g]?):qf w' g t cs:=hb.trans h
theorem qf.qo(h:qf w g t cs)(i:Nat)(u:Value):qf (w.setCell ⟨g,i,none⟩ u) g t (cs.setIfInBounds i u):=heap_setCell_same w g i cs t u h
end
structure qx(S:Nat→Prop)(w w':World):Prop where
 os:w'.os=w.os
 tape:w'.tape=w.tape
 output:w'.output=w.output
 size:w.heap.size≤w'.heap.size
 block:∀k,k<w.heap.size→¬ S k→w'.heap[k]?=w.heap[k]?
section
variable {S S':Nat→Prop} {a b c w w':World}
theorem qx.refl(S:Nat→Prop)(w:World):qx S w w:=⟨rfl,rfl,rfl,Nat.le_refl _,fun _ _ _=>rfl⟩
theorem qx.trans(h:qx S a b)(k:qx S' b c)(hs:∀i,S' i→S i∨a.heap.size≤i):qx S a c :=
 ⟨k.os.trans h.os,k.tape.trans h.tape,k.output.trans h.output,Nat.le_trans h.size k.size,fun i hi hn=>by
  refine(k.block i (Nat.lt_of_lt_of_le hi h.size) (fun e=>?_)).trans (h.block i hi hn);rcases hs i e with h1|h1
  ·exact hn h1
  ·omega⟩
theorem qx.mono(h:qx S w w')(hs:∀i,S i→S' i):qx S' w w':=⟨h.os,h.tape,h.output,h.size,fun k hk hn=>h.block k hk (fun e=>hn (hs k e))⟩
theorem qx.of_below(h:Below w.heap.size w w'):qx S w w':=⟨h.os,h.tape,h.output,h.size,fun k hk _=>h.block k hk⟩
theorem qx.qcg{row:Option Nat}(h:w.grownBy w' row)(hs:∀k,row=some k→S k):qx S w w' :=
 ⟨h.os,h.tape,h.output,h.size,fun k hk hn=>h.block k hk (fun e=>hn (hs k e.symm))⟩
theorem qx.drew(h:qx S a w):qx S a w.drew:=⟨h.os,h.tape,h.output,h.size,h.block⟩
theorem qx.drewN(h:qx S a w)(n:Nat):qx S a (w.drewN n):=⟨h.os,h.tape,h.output,h.size,h.block⟩
theorem qx.alloc(h:qx S a w)(o:Obj):qx S a (w.alloc o) :=
 h.trans (S':=fun _=>False) ⟨rfl,rfl,rfl,by simp,fun k hk _=>Below.heap_alloc _ _ _ hk⟩ (fun _ e=>e.elim)
theorem qx.setCell(h:qx S a w)(p:Addr)(u:Value)(hp:S p.block∨a.heap.size≤p.block):qx S a (w.setCell p u) :=
 h.trans (S':=fun k=>k=p.block) ⟨rfl,rfl,rfl,by simp[World.setCell],fun k _ hn=>Below.heap_setCell _ _ _ _ hn⟩ (fun i e=>by rw[e];exact hp)
theorem qx.grown{row:Option Nat}(h:qx S a w)(hg:w.grownBy w' row)(hs:∀k,row=some k→S k∨a.heap.size≤k):qx S a w' :=
 h.trans (S':=fun k=>row=some k) (qx.qcg hg (fun _ e=>e)) hs
theorem qx.below{B:Nat}(h:qx S a w)(hs:∀i,S i→B≤i)(hB:B≤a.heap.size):Below B a w :=
 ⟨h.os,h.tape,h.output,h.size,fun k hk=>h.block k (by omega) (fun e=>by have:=hs k e;omega)⟩
end
def qj (x:Nat × Bt × Bt × Bool):List Value:=.int .i64 (x.1:Int)::(Lib.byteCells x.2.1++(Lib.byteCells x.2.2.1++[.bool x.2.2.2]))
def vP (l:List (Nat × Bt × Bt × Bool)):List Value:=l.flatMap qj
theorem xY {w w':World}{base e size n:Nat}{v:Value}{xs:List Value}(h:w.ownsRow base e size v n xs)(hb:∀k,v.ownBlock=some k→w'.heap[k]?=w.heap[k]?):w'.ownsRow base e size v n xs:=by
 refine⟨h.1,?_⟩;rcases h.2 with hn|⟨g,cap,cur,rfl,h1,h2,r⟩
 ·exact .inl hn
 ·exact .inr ⟨g,cap,cur,rfl,h1,(hb g rfl).trans h2,r⟩
theorem ia {w:World}{base e size n:Nat}{v:Value}{xs:List Value}(h:w.ownsRow base e size v n xs):∀k,v.ownBlock=some k→k<w.heap.size:=by
 intro k hk;rcases h.2 with⟨rfl,_⟩|⟨g,cap,cur,rfl,h1,h2,r⟩
 ·cases hk
 ·simp[Value.ownBlock]at hk;subst hk;exact(Array.getElem?_eq_some_iff.1 h2).1
def uv (w:World)(own:Nat→Prop)(p m:Nat)(v:Value)(d:DD):Prop :=
 qf w p 107 #[.int .i64 (d.n:Int),.int .i64 d.room,.map (some m),v,.bool d.on,.int .i64 d.qp]∧xd w m d.now ∧
 w.ownsRow 0 125 66 v d.more.length (vP (fY d.base d.more)) ∧
 own p∧own m∧(∀k,v.ownBlock=some k→own k)∧(∀k,own k→k<w.heap.size)
def zx (most:Nat)(w:World)(own:Nat→Prop)(p:Nat)(d:DD):Prop:=d.ok most∧∃m v,uv w own p m v d
theorem uv.ne{w:World}{own:Nat→Prop}{p m:Nat}{v:Value}{d:DD}(h:uv w own p m v d):p≠m∧(∀k,v.ownBlock=some k→k≠p∧k≠m):=by
 obtain⟨h1,⟨D,⟨es,clock,h2,_⟩,_⟩,h3,_⟩:=h;unfold qf at h1;refine⟨?_,?_⟩
 ·rintro rfl;rw[h1]at h2;cases h2
 ·intro k hk;rcases h3.2 with⟨rfl,_⟩|⟨g,cap,cur,rfl,_,hg,_⟩
  ·cases hk
  ·simp[Value.ownBlock]at hk;subst hk;refine⟨?_,?_⟩
   ·rintro rfl;rw[h1]at hg;simp only[Option.some.injEq,Obj.cells.injEq]at hg;exact absurd hg.2.1 (by decide)
   ·rintro rfl;rw[h2]at hg;cases hg
theorem uv.keep{w w':World}{own:Nat→Prop}{p m:Nat}{v:Value}{d:DD}(h:uv w own p m v d)(hs:w.heap.size≤w'.heap.size)(hb:∀k,own k→w'.heap[k]?=w.heap[k]?):uv w' own p m v d:=by
 obtain⟨h1,h2,h3,hp,hm,hv,hl⟩:=h;exact⟨h1.of_block (hb _ hp),h2.of_block (hb _ hm),xY h3 (fun k hk=>hb k (hv k hk)),hp,hm,hv,fun k hk=>Nat.lt_of_lt_of_le (hl k hk) hs⟩
theorem zx.keep{most:Nat}{w w':World}{own:Nat→Prop}{p:Nat}{d:DD}(h:zx most w own p d)(hs:w.heap.size≤w'.heap.size)(hb:∀k,own k→w'.heap[k]?=w.heap[k]?):zx most w' own p d:=by
 obtain⟨h0,m,v,h1⟩:=h;exact⟨h0,m,v,h1.keep hs hb⟩
def uY (own jM:Nat→Prop)(w:World):Prop:=∀k,jM k→own k∨w.heap.size≤k
theorem uY.refl(own:Nat→Prop)(w:World):uY own own w:=fun _ h=>.inl h
def xu (most:Nat)(own:Nat→Prop)(p:Nat)(d:DD)(r:Value)(w:World)(e:Ending)(w':World):Prop :=
 e=.returned r∧∃jM,zx most w' jM p d∧qx own w w'∧uY own jM w
end Go.Proofs.YtdagdllomphidaaGreatDoor.dk
namespace Go.Proofs.YtdagdllomphidaaGreatDoor.dk
open _root_.Go.Proofs.Tryz Go Go.RowKit
theorem qlC{ρ:Operand→Value}{o:Oper}{w:World}{b:Nat}{s:qG}(x:Operand)(ho:o.op=.call { callee:=.builtin .len,args:=#[x],argTypes:=#[104] })(hx:ρ x=.map (some b))(h:xd w b s) :
    (execOp ρ o).run prog w=.ok (.value (.int .i64 (cnt s:Int))) w:=by
 simp[execOp,ho,resolve,invoke,builtin,hx,h.len o.type,Result.andThen]
theorem wH {ρ:Operand→Value}{o:Oper}{w:World}{b:Nat}{s:qG}(x y:Operand)(ho:o.op=.lookup 104 x y true)(hx:ρ x=.map (some b))(h:xd w b s)
    (k:Int) (hy:ρ y=.int .i64 k) (h0 : -9223372036854775808≤k) (h1:k≤9223372036854775807) :
    (execOp ρ o).run prog w=.ok (.value (.tuple #[ed ((look s k).getD zz),.bool (look s k).isSome])) w:=by
 simp[execOp,ho,hx,hy,(h.find k h0 h1).1,Result.andThen]
theorem qic{ρ:Operand→Value}{o:Oper}{w:World}{b:Nat}{s:qG}(x y:Operand)(ho:o.op=.lookup 104 x y false)(hx:ρ x=.map (some b))(h:xd w b s)
    (k:Int) (hy:ρ y=.int .i64 k) (h0 : -9223372036854775808≤k) (h1:k≤9223372036854775807) :
    (execOp ρ o).run prog w=.ok (.value (ed ((look s k).getD zz))) w:=by
 simp[execOp,ho,hx,hy,(h.find k h0 h1).2,Result.andThen]
theorem mr {ops:Array Oper}{rest:List Oper}{o:Oper}{a:Act}{w:World}{Q:Exit→Act→World→Prop}{b:Nat}{s:qG}(hg:o.guard=none)(x y z:Operand)(ho:o.op=.mapUpdate 104 x y z)(hx:a.eval x=.map (some b))(h:xd w b s)
    (k:Nat) (hy:a.eval y=.int .i64 (k:Int)) (v:Bt) (hz:a.eval z=ed v) (hk:k<s.length) (h1:s.length≤1024)
    (hK:∀w',xd w' b (put s k v)→w.mapTurned w' b→wpList prog ops Q rest (a.put o.dst undef) w'):wpList prog ops Q (o::rest) a w:=by
 refine wpList_plain hg fun K' hK'=>?_;obtain⟨w',hrun,r1,r2⟩:=h.store k v hk h1;unfold Oper.wp;simp[execOp,ho,hx,hy,hz,hrun,Result.andThen];exact hK' _ _ (hK w' r1 r2)
theorem uw {w w':World}{b:Nat}(h:w.mapTurned w' b):qx (fun k=>k=b) w w':=qx.qcg h.grown (fun _ e=>by injection e with e;exact e.symm)
theorem zr {ρ:Operand→Value}{o:Oper}{P:Program}(w:World)(t:TypeId)(c c':Array Value)(x y:Operand)(ho:o.op=.store t x y)(hx:ρ x=.pointer (some ⟨w.heap.size,0,none⟩))(hy:ρ y=.agg c')
    (hi:(P.info? t).map (·.size)=some c'.size) (hoc:c.size=c'.size) (h1:c'.all (·.oneCell')=true) :
    (execOp ρ o).run P (w.alloc (.cells c t))=.ok .skip (w.alloc (.cells c' t)):=by
 have hr:=run_storeAt_new (P:=P) w t c c' hi hoc h1;simp[execOp,ho,hx,hy,hr,Result.andThen]
theorem ic (q:Bt):(Lib.byteCells q).toArray.all (·.oneCell')=true:=by
 rw[Array.all_eq_true'];intro u hu;exact Lib.byteCells_one q u (by simpa using hu)
theorem nK:(prog.info? 123).map (·.size)=some 32:=by kernel_rfl
theorem yF {P:Program}(w:World)(g o:Nat)(t ty:TypeId)(cs:Array Value)(xs:List Value)(fr:Nat × Nat)(d:TypeDesc)(hg:w.heap[g]?=some (.cells cs t fr))
    (hu:P.underlying ty=some d) (hd:(match d with | .struct _ | .array _ _=>true|_=>false)=true) (hi:(P.info? ty).map (·.size)=some xs.length) (hx:∀j u,xs[j]?=some u→cs[o+j]?=some u) :
    (loadVar ty ⟨g,o,none⟩).run P w=.ok (.agg xs.toArray) w:=by
 have hl:(loadCells ⟨g,o,none⟩ xs.length).run P w=.ok xs.toArray w :=
  run_loadCells_list (P:=P) w ⟨g,o,none⟩ xs (fun j v hv=>by
   rw[addr_add,cell_of_row w g (o+j) cs t fr hg];exact hx j v hv)
 cases hq:P.info? ty with
 | none=>simp[hq]at hi
 | some i =>
  have hs:i.size=xs.length:=by simpa[hq]using hi
  have hagg:(isAgg ty).run P w=.ok true w:=by
   unfold isAgg;rw[Sem.run_bind,run_underlying hu w];cases d <;> simp_all
  simp[loadVar,Sem.run_bind,hagg,sizeOf,typeInfo,hq,hs,hl]
theorem qH {ρ:Operand→Value}{o:Oper}{P:Program}{w:World}(ty:TypeId)(x:Operand)(ho:o.op=.load ty x)(g i:Nat)(hx:ρ x=.pointer (some ⟨g,i,none⟩))(t:TypeId)(cs:Array Value)(xs:List Value)(fr:Nat × Nat)(d:TypeDesc)
    (hg:w.heap[g]?=some (.cells cs t fr)) (hu:P.underlying ty=some d) (hd:(match d with | .struct _ | .array _ _=>true|_=>false)=true) (hi:(P.info? ty).map (·.size)=some xs.length) (hc:∀j u,xs[j]?=some u→cs[i+j]?=some u) :
    (execOp ρ o).run P w=.ok (.value (.agg xs.toArray)) w:=by
 simp only[execOp,ho,hx,Instr.loadAt,Instr.sureAddr,Sem.run_bind,Sem.run_pure,Result.andThen_ok,yF w g i t ty cs xs fr d hg hu hd hi hc]
section
variable {w:World} {p m:Nat} {v:Value} {d:DD} {own:Nat→Prop}
theorem jV {t:TypeId}{a b c e f g:Value}(h:qf w p t #[a,b,c,e,f,g]) :
    w.cell? ⟨p,0,none⟩=some a∧w.cell? ⟨p,1,none⟩=some b∧w.cell? ⟨p,2,none⟩=some c∧w.cell? ⟨p,3,none⟩=some e∧w.cell? ⟨p,4,none⟩=some f∧w.cell? ⟨p,5,none⟩=some g :=
 ⟨h.cell 0,h.cell 1,h.cell 2,h.cell 3,h.cell 4,h.cell 5⟩
theorem qat(h:uv w own p m v d) :
    Calls prog 45 #[.pointer (some ⟨p,0,none⟩)] w fun e w'=>e=.returned (.int .i64 (d.n:Int))∧w=w':=by
 obtain⟨c0,c1,c2,c3,c4,c5⟩:=jV h.1;clear h c1 c2 c3 c4 c5;go_enter func45,ntmps45;go_wp2;go_ret;exact⟨rfl,rfl⟩
theorem qlD(h:uv w own p m v d) :
    Calls prog 99 #[.pointer (some ⟨p,0,none⟩)] w fun e w'=>e=.returned (.bool d.on)∧w=w':=by
 obtain⟨c0,c1,c2,c3,c4,c5⟩:=jV h.1;clear h c1 c2 c3 c0 c5;go_enter func99,ntmps99;go_wp2;go_ret;exact⟨rfl,rfl⟩
theorem kh (h:uv w own p m v d)(k:Int) :
    Calls prog 134 #[.pointer (some ⟨p,0,none⟩),.int .i64 k] w fun e w'=>e=.returned (.bool (d.has k))∧w=w':=by
 obtain⟨c0,c1,c2,c3,c4,c5⟩:=jV h.1;clear h c1 c2 c3 c4 c5;have H:Hid (d.has k=(decide (0≤k)&&decide (k<(d.n:Int)))):=rfl;generalize d.has k=q at *;generalize (d.n:Int)=n at *;by_cases h0:0≤k
 ·by_cases h1:k<n
  ·have hq:q=true:=by rw[H.out];simp[h0,h1]
   clear H;subst hq;go_enter func134,ntmps134;go_wp2;go_ret;exact⟨rfl,rfl⟩
  ·have hq:q=false:=by rw[H.out];simp[h1]
   have h1':n≤k:=by omega
   clear H;subst hq;go_enter func134,ntmps134;go_wp2;go_ret;exact⟨rfl,rfl⟩
 ·have hq:q=false:=by rw[H.out];simp[h0]
  have h0':k<0:=by omega
  clear H;subst hq;go_enter func134,ntmps134;go_wp2;go_ret;exact⟨rfl,rfl⟩
theorem uv.turn{w':World}{d':DD}(h:uv w own p m v d)(hb:d'.base=d.base)(hm:d'.more=d.more)
    (hk:qf w' p 107 #[.int .i64 (d'.n:Int),.int .i64 d'.room,.map (some m),v,.bool d'.on,.int .i64 d'.qp]) (hs:w.heap.size≤w'.heap.size) (hr:∀k,k<w.heap.size→k≠p→w'.heap[k]?=w.heap[k]?):uv w' own p m v d':=by
 obtain⟨hpm,hv⟩:=h.ne;obtain⟨h1,h2,h3,hp,hm',hvo,hl⟩:=h;refine⟨hk,?_,?_,hp,hm',hvo,fun k hk=>Nat.lt_of_lt_of_le (hl k hk) hs⟩
 ·have:d'.now=d.now:=by unfold DD.now;rw[hb,hm]
  rw[this];exact h2.of_block (hr _ (hl _ hm') (fun e=>hpm e.symm))
 ·rw[hb,hm];exact xY h3 (fun k hk=>hr k (hl k (hvo k hk)) (hv k hk).1)
theorem xx (w:World)(p i:Nat)(u:Value)(k:Nat)(h:k≠p):(w.setCell ⟨p,i,none⟩ u).heap[k]?=w.heap[k]? :=Below.heap_setCell _ _ _ _ h
theorem size_set(w:World)(p:Addr)(u:Value):(w.setCell p u).heap.size=w.heap.size:=by simp[World.setCell]
theorem qp4{most:Nat}(h:zx most w own p d) :
    Calls prog 20 #[.pointer (some ⟨p,0,none⟩)] w (xu most own p d.off (.tuple #[]) w):=by
 obtain⟨h0,m,v,h1⟩:=h;have H:=QH h1;have H0:=QH h0;obtain⟨c0,c1,c2,c3,c4,c5⟩:=jV h1.1;have f4:=h1.1.frozen 4;have f5:=h1.1.frozen 5;clear h1 h0;go_enter func20,ntmps20;go_wp2
 go_end0
 refine⟨rfl,own,⟨{ H0.out with qgG:=Int.le_refl _,qgH:=(by show(0:Int)≤_;omega) },m,v,?_⟩,((qx.refl _ _).setCell _ _ (.inl H.out.2.2.2.1)).setCell _ _ (.inl H.out.2.2.2.1),uY.refl _ _⟩;refine H.out.turn (d':=d.off) rfl rfl ((H.out.1.qo 4 _).qo 5 _) (by simp[size_set]) (fun k _ hk=>?_);rw[xx _ _ _ _ _ hk,xx _ _ _ _ _ hk]
theorem nL {most:Nat}(h:zx most w own p d)(zQ:d.on=true) :
    Calls prog 179 #[.pointer (some ⟨p,0,none⟩)] w (xu most own p d.oper (.bool d.oper.on) w):=by
 have hd0:=QH h;obtain⟨h0,m,v,h1⟩:=h;have H:=QH h1;have H0:=QH h0;have f5:=h1.1.frozen 5;obtain⟨c0,c1,c2,c3,c4,c5⟩:=jV h1.1;have b0:=h0.qgG;have b1:=h0.qgH;rw[zQ]at c4;clear h1 h0;by_cases e1:d.qp=1
 ·have hop:d.oper=d.off:=by unfold DD.oper;rw[if_pos e1]
  rw[hop];rw[e1]at c5;have hd1:zx most (w.setCell ⟨p,5,none⟩ (.int .i64 0)) own p { d with qp:=0 } :=
   ⟨{ H0.out with qgG:=Int.le_refl _,qgH:=(by show(0:Int)≤_;omega) },m,v,H.out.turn (d':={ d with qp:=0 }) rfl rfl (H.out.1.qo 5 _) (by simp[size_set]) (fun k _ hk=>xx _ _ _ _ _ hk)⟩
  have qxJ:=QH (qp4 hd1);have E1:=QH e1;clear e1 hop hd1 b0 b1;go_enter func179,ntmps179;go_wp2_with (go_at_call 20;refine qxJ.out.mono ?_);rintro e w2 ⟨rfl,jM,hd2,hb2,hg2⟩;obtain⟨_,m2,v2,h2⟩:=hd2;have HD2:Hid (zx most w2 jM p d.off):=⟨by assumption,m2,v2,h2⟩;obtain⟨g0,g1,g2,g3,g4,g5⟩:=jV h2.1;clear h2 qxJ;go_wp2;go_ret;exact⟨rfl,jM,HD2.out,((qx.refl own w).setCell _ _ (.inl H.out.2.2.2.1)).trans hb2 (fun i h=>.inl h),fun k hk=>by
   rcases hg2 k hk with h|h
   ·exact .inl h
   ·rw[size_set]at h;exact .inr h⟩
 ·by_cases e2:1<d.qp
  ·have hop:d.oper={ d with qp:=d.qp-1 }:=by unfold DD.oper;rw[if_neg e1,if_pos e2]
   rw[hop];have e0:0<d.qp:=by omega
   have e3:((d.qp-1:Int) == 0)=false:=by rw[beq_eq_false_iff_ne];omega
   clear e1;go_enter func179,ntmps179;go_wp2;go_ret;refine⟨(by rw[zQ];rfl),own,⟨{ H0.out with qgG:=by simp only;omega,qgH:=by simp only;omega },m,v,?_⟩,(qx.refl _ _).setCell _ _ (.inl H.out.2.2.2.1),uY.refl _ _⟩;refine H.out.turn (d':={ d with qp:=d.qp-1 }) rfl rfl ?_ (by simp[size_set]) (fun k _ hk=>xx _ _ _ _ _ hk);exact H.out.1.qo 5 _
  ·have hop:d.oper=d:=by unfold DD.oper;rw[if_neg e1,if_neg e2]
   rw[hop];have e0:d.qp=0:=by omega
   rw[e0]at c5;clear e1 e2;have E0:=QH e0;clear e0 b0 b1;go_enter func179,ntmps179;go_wp2;go_ret;exact⟨(by rw[zQ];rfl),own,hd0.out,qx.refl _ _,uY.refl _ _⟩
end
end Go.Proofs.YtdagdllomphidaaGreatDoor.dk
namespace Go.Proofs.YtdagdllomphidaaGreatDoor.dk
open _root_.Go.Proofs.Tryz Go Go.RowKit
def qp6 (most n:Nat)(room:Int)(w:World)(e:Ending)(w':World):Prop :=
 ∃p own,e=.returned (.pointer (some ⟨p,0,none⟩))∧zx most w' own p (DD.new n room)∧Below w.heap.size w w'∧∀k,own k→w.heap.size≤k
theorem ux (most n:Nat)(room:Int)(h0:1≤n)(h1:n≤1024)(r0:0≤room)(r1:room≤9223372036854775807)(w:World) :
    Calls prog 27 #[.int .i64 (n:Int),.int .i64 room] w (qp6 most n room w):=by
 have hmm:=@run_makeMap prog;have i0:¬ (n:Int)<1:=by omega
 have i1:¬ 1024<(n:Int):=by omega
 have i2:¬ room<0:=by omega
 go_enter func27,ntmps27;go_wp2;go_ret;refine⟨w.heap.size+1,fun k=>k=w.heap.size∨k=w.heap.size+1,rfl,⟨⟨?_,?_,r0,r1,Int.le_refl _,by simp[DD.new],Nat.zero_le _,fun _ h=>by simp[DD.new]at h,fun v h=>?_⟩,w.heap.size,.slice none 0 0,?_⟩,((Below.refl _ w).alloc (Nat.le_refl _) _).alloc (by simp) _,fun k h=>by omega⟩
 ·simpa[DD.n,DD.new]using h0
 ·simpa[DD.n,DD.new]using h1
 ·simp[DD.new]at h
 ·refine⟨?_,?_,⟨rfl,.inl ⟨rfl,rfl⟩⟩,.inr rfl,.inl rfl,fun k h=>by simp[Value.ownBlock]at h,fun k h=>by simp;omega⟩
  ·have e:(DD.new n room).n=n:=by simp[DD.n,DD.new]
   rw[e];exact heap_alloc2_new w _ _
  ·exact(xd.made w n).of_block (Below.heap_alloc _ _ _ (by simp))
def vQ (r:Bt × Int)(w:World)(e:Ending)(w':World):Prop :=
 e=.returned (.tuple #[.string (str r.1),.int .i64 r.2])∧Below w.heap.size w w'
theorem wA (P:Bt)(b k:Nat)(t:TypeId)(w:World)(hk:P.length=k)(h:w.heap[b]?=some (.cells (Lib.byteCells P).toArray t (0,0))) :
    (convert 118 9 (.slice (some ⟨b,0,none⟩) k k)).run prog w=.ok (.string (str P)) w:=by
 subst hk;refine run_convert_bytes_back (P:=prog) w 118 9 5 ⟨b,0,none⟩ P.length P underlying118 underlying5 underlying9 ?_;intro j hj;rw[addr_add,Nat.zero_add,cell_of_row w b j _ _ _ h];simp[Lib.byteCells,hj]
section
variable {w:World} {p m:Nat} {v:Value} {d:DD} {own:Nat→Prop}
theorem qch(h:uv w own p m v d)(zQ:d.on=false)(k:Int) :
    Calls prog 89 #[.pointer (some ⟨p,0,none⟩),.int .i64 k] w (vQ ([],6) w):=by
 obtain⟨c0,c1,c2,c3,c4,c5⟩:=jV h.1;rw[zQ]at c4;clear h c1 c2 c3 c0 c5;go_enter func89,ntmps89;go_wp2;go_ret2;exact⟨rfl,Below.refl _ _⟩
theorem qci(h:uv w own p m v d)(zQ:d.on=true)(k:Int)(hh:d.has k=false) :
    Calls prog 89 #[.pointer (some ⟨p,0,none⟩),.int .i64 k] w (vQ ([],2) w):=by
 have hhas:=kh h k;rw[hh]at hhas;have HH:=QH hhas;obtain⟨c0,c1,c2,c3,c4,c5⟩:=jV h.1;rw[zQ]at c4;clear h c1 c2 c3 c0 c5 hhas zQ hh;go_enter func89,ntmps89;go_wp2_with (go_at_call 134;refine HH.out.mono ?_;rintro e w' ⟨rfl,rfl⟩);go_ret2;exact⟨rfl,Below.refl _ _⟩
theorem qgI{most:Nat}(h0:d.ok most)(h:uv w own p m v d)(zQ:d.on=true)(k:Int)(hh:d.has k=true) :
    Calls prog 89 #[.pointer (some ⟨p,0,none⟩),.int .i64 k] w (vQ ((look d.now k).getD zz,0) w):=by
 have hhas:=kh h k;rw[hh]at hhas;have HH:=QH hhas;have HM:=QH h.2.1;obtain⟨c0,c1,c2,c3,c4,c5⟩:=jV h.1;rw[zQ]at c4;have hk0:0≤k∧k<(d.n:Int):=by simpa[DD.has]using hh
 have hn1:=h0.n1;have hlen:((look d.now k).getD zz).length=32:=by
  cases hx:look d.now k with
  | none=>exact qX
  | some u=>exact h0.sN hx
 generalize hq:(look d.now k).getD zz=q at *;have HQ:=QH hq;have HK:=QH hk0;have HN:=QH hn1;have sR:=wA q w.heap.size 32 123 (w.alloc (.cells (Lib.byteCells q).toArray 123)) hlen (heap_alloc_new w _);have qrS:(Lib.byteCells q).toArray.size=32:=by simp[Lib.byteCells,hlen]
 have HL:=QH qrS;have HC:=QH sR;clear h c1 c3 c0 c5 hhas zQ hh hq hk0 hn1 hlen sR qrS h0;go_enter func89,ntmps89;go_wp2_with (first|(go_at_call 134;refine HH.out.mono ?_;rintro e w' ⟨rfl,rfl⟩)|(at_lookup;refine qg rfl (qic _ _ rfl rfl HM.out k rfl (by have:=HK.out;omega) (by have:=HK.out;have:=HN.out;omega)) ?_;rw[HQ.out])|(refine wpList_skip rfl (zr w 123 _ _ (.tmp 6) (.tmp 26) rfl rfl rfl (by rw[HL.out];exact nK) (by rw[HL.out];rfl) (ic q)) ?_;have sR:=HC.out));go_ret2;exact⟨rfl,(Below.refl _ _).alloc (Nat.le_refl _) _⟩
end
end Go.Proofs.YtdagdllomphidaaGreatDoor.dk
namespace Go.Proofs.YtdagdllomphidaaGreatDoor.dk
open _root_.Go.Proofs.Tryz Go Go.RowKit
def yo (w:World)(a:Nat)(acc:List Int):Prop :=
 ∃D:D1,w.ownsMap prog 3 unitElem a (Maps.size D) D∧(∀k:Int,Maps.has D (.int .i64 k)=acc.contains k)∧Maps.size D=acc.length
def xT (acc:List Int)(x:Int):List Int:=if acc.contains x then acc else acc++[x]
theorem yo.lt{w:World}{a:Nat}{acc:List Int}(h:yo w a acc):a<w.heap.size:=by
 obtain⟨D,h1,_⟩:=h;exact h1.lt
theorem yo.of_block{w w':World}{m:Nat}{s:List Int}(h:yo w m s)(hb:w'.heap[m]?=w.heap[m]?):yo w' m s:=by
 obtain⟨D,⟨es,clock,h1,h2⟩,h3⟩:=h;exact⟨D,⟨es,clock,hb.trans h1,h2⟩,h3⟩
theorem yo.made(w:World):yo (w.alloc (.map #[] 0)) w.heap.size [] :=
 ⟨.map [],World.ownsMap_made w prog 3 unitElem,fun _=>rfl,rfl⟩
theorem yo.len{w:World}{a:Nat}{acc:List Int}(h:yo w a acc)(ty:TypeId):(Builtin.len_ #[199] ty #[.map (some a)]).run prog w=.ok (.int .i64 (acc.length:Int)) w:=by
 obtain⟨D,hown,_,hc⟩:=h;rw[← hc];exact hown.len underlying199 ty
theorem yo.store{w:World}{a:Nat}{acc:List Int}(h:yo w a acc)(k:Int)(k0 : -9223372036854775808≤k)(k1:k≤9223372036854775807)(hl:acc.length<maxLen) :
    ∃w',(Instr.mapUpdate 199 (.map (some a)) (.int .i64 k) (.agg #[])).run prog w=.ok () w'∧yo w' a (xT acc k)∧w.mapTurned w' a:=by
 obtain⟨D,hown,hh,hc⟩:=h;have hkey:=Go.Maps.keyOf_int_mk (P:=prog) (k:=3) underlying3 (qp3 k k0 k1);have hti:=hown.tidy keyed;obtain⟨w',hrun,r1,r2⟩:=hown.store keyed underlying199 (by omega) hkey unitElem_mk;refine⟨w',hrun,⟨_,fZ r1,?_,?_⟩,r2⟩
 ·intro j;by_cases e:j=k
  ·subst e;rw[Maps.has_put_same hti.isMap (qeK _)];unfold xT;split
   ·exact(by assumption:acc.contains j=true).symm
   ·simp
  ·rw[Maps.has_put_other (nJ e),hh];unfold xT;split
   ·rfl
   ·simp[e]
 ·rw[Maps.size_put hti,hh,hc];unfold xT;split <;> simp
theorem ee {ρ:Operand→Value}{o:Oper}{w:World}{b:Nat}{s:List Int}(x:Operand)(ho:o.op=.call { callee:=.builtin .len,args:=#[x],argTypes:=#[199] })(hx:ρ x=.map (some b))(h:yo w b s) :
    (execOp ρ o).run prog w=.ok (.value (.int .i64 (s.length:Int))) w:=by
 simp[execOp,ho,resolve,invoke,builtin,hx,h.len o.type,Result.andThen]
theorem vR {ops:Array Oper}{rest:List Oper}{o:Oper}{a:Act}{w:World}{Q:Exit→Act→World→Prop}{b:Nat}{s:List Int}(hg:o.guard=none)(x y z:Operand)(ho:o.op=.mapUpdate 199 x y z)(hx:a.eval x=.map (some b))(h:yo w b s)
    (k:Int) (hy:a.eval y=.int .i64 k) (hz:a.eval z=.agg #[]) (k0 : -9223372036854775808≤k) (k1:k≤9223372036854775807) (hl:s.length<maxLen)
    (hK:∀w',yo w' b (xT s k)→w.mapTurned w' b→wpList prog ops Q rest (a.put o.dst undef) w'):wpList prog ops Q (o::rest) a w:=by
 refine wpList_plain hg fun K' hK'=>?_;obtain⟨w',hrun,r1,r2⟩:=h.store k k0 k1 hl;unfold Oper.wp;simp[execOp,ho,hx,hy,hz,hrun,Result.andThen];exact hK' _ _ (hK w' r1 r2)
structure Env(w:World)(p B1 B4 B3 a:Nat)(free:Int)(acc:List Int):Prop where
 b1:qf w B1 24 #[.pointer (some ⟨p,0,none⟩)]
 b4:qf w B4 199 #[.map (some a)]
 b3:qf w B3 3 #[.int .i64 free]
 qo:yo w a acc
def ask (d:DD)(acc:List Int)(x:Int):Bool × List Int :=
 if d.has x=false then(false,acc)
 else if (look d.now x).isSome then(true,acc)
 else(decide (((xT acc x).length:Int)≤d.room-(d.used:Int)),xT acc x)
def mM (r:Bool × List Int)(a:Nat)(w:World)(e:Ending)(w':World):Prop :=
 e=.returned (.bool r.1)∧yo w' a r.2∧qx (fun k=>k=a) w w'
section
variable {w:World} {p m:Nat} {v:Value} {d:DD} {own:Nat→Prop} {B1 B4 B3 a:Nat} {acc:List Int}
theorem qp7(h:uv w own p m v d)(he:Env w p B1 B4 B3 a (d.room-(d.used:Int)) acc)(x:Int)(hh:d.has x=false) :
    Calls prog 218 #[.int .i64 x,.pointer (some ⟨B1,0,none⟩),.pointer (some ⟨B4,0,none⟩),.pointer (some ⟨B3,0,none⟩)] w (mM (false,acc) a w):=by
 have hhas:=kh h x;rw[hh]at hhas;have HH:=QH hhas;have HE:=QH he;have g1:w.cell? ⟨B1,0,none⟩=some (.pointer (some ⟨p,0,none⟩)):=he.b1.cell 0;clear h he hhas hh;go_enter func218,ntmps218;go_wp2_with (go_at_call 134;refine HH.out.mono ?_;rintro e w' ⟨rfl,rfl⟩);go_ret;exact⟨rfl,HE.out.qo,qx.refl _ _⟩
theorem qp8{most:Nat}(h0:d.ok most)(h:uv w own p m v d)(he:Env w p B1 B4 B3 a (d.room-(d.used:Int)) acc)(x:Int)(hh:d.has x=true)(hs:(look d.now x).isSome=true) :
    Calls prog 218 #[.int .i64 x,.pointer (some ⟨B1,0,none⟩),.pointer (some ⟨B4,0,none⟩),.pointer (some ⟨B3,0,none⟩)] w (mM (true,acc) a w):=by
 have hhas:=kh h x;rw[hh]at hhas;have HH:=QH hhas;have HE:=QH he;have HM:=QH h.2.1;have g1:w.cell? ⟨B1,0,none⟩=some (.pointer (some ⟨p,0,none⟩)):=he.b1.cell 0;have c2:=(jV h.1).2.2.1;have hk0:0≤x∧x<(d.n:Int):=by simpa[DD.has]using hh
 have HK:=QH hk0;have HN:=QH h0.n1;have hlen:(Lib.byteCells ((look d.now x).getD zz)).toArray.size=32:=by
  simp only[List.size_toArray,Lib.byteCells_length];cases hx:look d.now x with
  | none=>exact qX
  | some u=>exact h0.sN hx
 have HL:=QH hlen;have HS:=QH hs;have hal:=fun c=>yo.of_block he.qo (Below.heap_alloc w (.cells c 123) a he.qo.lt);have HA:=QH hal;clear h he hhas hh hk0 hlen hs hal h0;go_enter func218,ntmps218;go_wp2_with (first|(go_at_call 134;refine HH.out.mono ?_;rintro e w' ⟨rfl,rfl⟩)|(at_lookup;refine qg rfl (wH _ _ rfl rfl HM.out x rfl (by have:=HK.out;omega) (by have:=HK.out;have:=HN.out;omega)) ?_;rw[HS.out])|(refine wpList_skip rfl (zr w 123 _ _ (.tmp 6) (.tmp 19) rfl rfl rfl (by rw[HL.out];exact nK) (by rw[HL.out];rfl) (ic _)) ?_));go_ret;exact⟨rfl,HA.out _,(qx.refl _ _).alloc _⟩
theorem qp9{most:Nat}(h0:d.ok most)(h:uv w own p m v d)(he:Env w p B1 B4 B3 a (d.room-(d.used:Int)) acc)(x:Int)(hh:d.has x=true)(hs:(look d.now x).isSome=false)(hl:acc.length<maxLen) :
    Calls prog 218 #[.int .i64 x,.pointer (some ⟨B1,0,none⟩),.pointer (some ⟨B4,0,none⟩),.pointer (some ⟨B3,0,none⟩)] w (mM (decide (((xT acc x).length:Int)≤d.room-(d.used:Int)),xT acc x) a w):=by
 have hhas:=kh h x;rw[hh]at hhas;have HH:=QH hhas;have HE:=QH he;have HM:=QH h.2.1;have g1:w.cell? ⟨B1,0,none⟩=some (.pointer (some ⟨p,0,none⟩)):=he.b1.cell 0;have g4:w.cell? ⟨B4,0,none⟩=some (.map (some a)):=he.b4.cell 0;have g3:w.cell? ⟨B3,0,none⟩=some (.int .i64 (d.room-(d.used:Int))):=he.b3.cell 0;have l4:=he.b4.lt;have l3:=he.b3.lt;have c2:=(jV h.1).2.2.1;have hk0:0≤x∧x<(d.n:Int):=by simpa[DD.has]using hh
 have HK:=QH hk0;have HN:=QH h0.n1;have hlen:(Lib.byteCells ((look d.now x).getD zz)).toArray.size=32:=by
  simp only[List.size_toArray,Lib.byteCells_length];cases hx:look d.now x with
  | none=>exact qX
  | some u=>exact h0.sN hx
 have HL:=QH hlen;have HS:=QH hs;have hal:=fun c=>yo.of_block he.qo (Below.heap_alloc w (.cells c 123) a he.qo.lt);have HA:=QH hal;have HLl:=QH hl;have n43:B4≠a:=by
  rintro rfl;obtain⟨D,⟨es,clock,q,_⟩,_⟩:=he.qo;have:=he.b4;unfold qf at this;rw[q]at this;cases this
 have n33:B3≠a:=by
  rintro rfl;obtain⟨D,⟨es,clock,q,_⟩,_⟩:=he.qo;have:=he.b3;unfold qf at this;rw[q]at this;cases this
 clear h he hhas hh hk0 hlen hs hal h0 hl;generalize qxK:d.room-(d.used:Int)=free at *;clear qxK;go_enter func218,ntmps218;go_wp2_with (first|(go_at_call 134;refine HH.out.mono ?_;rintro e w' ⟨rfl,rfl⟩)|(at_lookup;refine qg rfl (wH _ _ rfl rfl HM.out x rfl (by have:=HK.out;omega) (by have:=HK.out;have:=HN.out;omega)) ?_;rw[HS.out])|(refine wpList_skip rfl (zr w 123 _ _ (.tmp 6) (.tmp 19) rfl rfl rfl (by rw[HL.out];exact nK) (by rw[HL.out];rfl) (ic _)) ?_)|(at_mapUpdate;refine vR rfl _ _ _ rfl rfl (HA.out _) x rfl rfl (by have:=HK.out;omega) (by have:=HK.out;have:=HN.out;omega) HLl.out ?_;intro w2 hs2 bB;have ur:=QH hs2;have qy:=QH (((qx.refl (fun k=>k=a) w).alloc _).trans (uw bB) (fun _ h=>.inl h));have q4:=((uw bB).block B4 (by simp;omega) n43).trans (Below.heap_alloc w _ B4 l4);have q3:=((uw bB).block B3 (by simp;omega) n33).trans (Below.heap_alloc w _ B3 l3);have k4:=(World.cell?_of_block (a:=⟨B4,0,none⟩) q4).trans g4;have k3:=(World.cell?_of_block (a:=⟨B3,0,none⟩) q3).trans g3;clear hs2 bB q4 q3)|(at_len;refine qg rfl (ee _ rfl rfl ur.out) ?_));go_ret;exact⟨rfl,ur.out,qy.out⟩
end
end Go.Proofs.YtdagdllomphidaaGreatDoor.dk
namespace Go.Proofs.YtdagdllomphidaaGreatDoor.dk
open _root_.Go.Proofs.Tryz Go Go.RowKit
structure qxL(cs:Array Value)(x:Nat × Bt × Bt × Bool):Prop where
 size:cs.size=66
 at_:cs[0]?=some (.int .i64 (x.1:Int))
 data:∀j u,(Lib.byteCells x.2.1)[j]?=some u→cs[1+j]?=some u
 before:∀j u,(Lib.byteCells x.2.2.1)[j]?=some u→cs[33+j]?=some u
 written:cs[65]?=some (.bool x.2.2.2)
theorem rowOf(x:Nat × Bt × Bt × Bool)(h1:x.2.1.length=32)(h2:x.2.2.1.length=32):qxL (qj x).toArray x:=by
 have e1:(Lib.byteCells x.2.1).length=32:=by rw[Lib.byteCells_length,h1]
 have e2:(Lib.byteCells x.2.2.1).length=32:=by rw[Lib.byteCells_length,h2]
 refine⟨by simp[qj,e1,e2],rfl,?_,?_,?_⟩
 ·intro j u hu;have hj:j<32:=by rw[← e1];exact(List.getElem?_eq_some_iff.1 hu).1
  simp only[List.getElem?_toArray,qj,Nat.add_comm 1 j,List.getElem?_cons_succ];rw[List.getElem?_append_left (by omega)];exact hu
 ·intro j u hu;have hj:j<32:=by rw[← e2];exact(List.getElem?_eq_some_iff.1 hu).1
  simp only[List.getElem?_toArray,qj,show 33+j=(32+j)+1 by omega,List.getElem?_cons_succ];rw[List.getElem?_append_right (by omega),e1,List.getElem?_append_left (by omega),show 32+j-32=j by omega];exact hu
 ·simp only[List.getElem?_toArray,qj,show 65=64+1 from rfl,List.getElem?_cons_succ];rw[List.getElem?_append_right (by omega),e1,List.getElem?_append_right (by omega),e2];rfl
section
variable {w:World} {p m:Nat}
end
end Go.Proofs.YtdagdllomphidaaGreatDoor.dk

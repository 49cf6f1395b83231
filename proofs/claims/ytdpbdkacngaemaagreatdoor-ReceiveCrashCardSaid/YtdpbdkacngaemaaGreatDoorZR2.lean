/- MgSns, MtDs, MgTake, MgLay, MgSame, MgChk, MtAbove, ImRefI, ImRefC, MtChk, MgCk, MgPut, WiRefP, MtNums, MtGdB, MtSize, SlotsP, MtEnc, MgEnc, MtProg, DkPure, DkMap, DkMem, DkOps. -/
import Derived.Test.YtdpbdkacngaemaaGreatDoorZR1
import Derived.Laws.EntriesVeiled
import Derived.Lib.QuietBelow
import Derived.Laws.AppendOwnNone
import Derived.Lib.BufferWrite
set_option linter.unusedVariables false
set_option linter.unusedSimpArgs false
set_option maxHeartbeats 30000000
set_option maxRecDepth 100000
namespace Go.Proofs.YtdpbdkacngaemaaGreatDoor.mt.pg
open _root_.Go.Proofs.Tryz Go Go.RowKit ib wi im mt
def tC:eA:=(⟨(0,0),[],false⟩,.slice none 0 0)
theorem tD:∀(l:List eA) (k:Nat) (_:k<l.length) (x:eA) (a b c d:Value),iB x=[a,b,c,d]→((((zG l).set (k*4) a).set (k*4+1) b).set (k*4+2) c).set (k*4+3) d=zG (l.set k x)
 | y::l,0,_,x,a,b,c,d,h=>by
  show(((((iB y++zG l).set (0*4) a).set (0*4+1) b).set (0*4+2) c).set (0*4+3) d)=iB x++zG l;rw[h];rfl
 | y::l,k+1,hk,x,a,b,c,d,h=>by
  have ih:=tD l k (by simpa using hk) x a b c d h;have e:∀(j:Nat) (R:List Value) (u:Value),(iB y++R).set ((k+1)*4+j) u=iB y++R.set (k*4+j) u:=fun j R u=>by
   rw[show(k+1)*4+j=(k*4+j)+4 by omega];rfl
  show(((((iB y++zG l).set ((k+1)*4) a).set ((k+1)*4+1) b).set ((k+1)*4+2) c).set ((k+1)*4+3) d)=iB y++zG (l.set k x);rw[show(k+1)*4=(k+1)*4+0 from rfl,e 0,Nat.add_zero,e 1,e 2,e 3,← ih]
theorem qrn(n i:Nat)(h:i<n)(j:Nat)(hj:j<4):(zG (List.replicate n tC))[i*4+j]?=(iB tC)[j]? :=by
 rw[xR _ i (by simpa using h) j hj,List.getElem_replicate]
theorem qiT(n:Nat):madeCells #[.int .u64 0,.int .u64 0,.slice none 0 0,.bool false] (n*4)=(zG (List.replicate n tC)).toArray:=by
 apply Array.ext
 ·rw[size_madeCells,List.size_toArray,yU,List.length_replicate]
 ·intro j h1 h2;have hj:j<n*4:=by simpa[yU]using h2
  have hm:j%4<4:=Nat.mod_lt _ (by omega);have e:=qrn n (j/4) (by omega) (j%4) hm;rw[show j/4*4+j%4=j by omega]at e;have e2:(zG (List.replicate n tC)).toArray[j]?=(iB tC)[j%4]? :=by simpa using e
  rw[Array.getElem?_eq_getElem h2]at e2;obtain⟨q,hq⟩:=QE (j%4);rw[hq]at e2 hm
  match q,hm with
  | 0,_=>rw[Option.some.inj e2];simp[madeCells,hq,tC]
  | 1,_=>rw[Option.some.inj e2];simp[madeCells,hq,tC]
  | 2,_=>rw[Option.some.inj e2];simp[madeCells,hq,tC]
  | 3,_=>rw[Option.some.inj e2];simp[madeCells,hq,tC]
theorem qft(n:Nat)(h:n≤1000)(W:World):(Instr.makeSlice 94 (.int .i64 (n:Int)) (.int .i64 (n:Int))).run prog W=.ok (.slice (some ⟨W.heap.size,0,none⟩) n n) (W.alloc (.cells (zG (List.replicate n tC)).toArray 141)):=by
 obtain⟨i0,hi,hz0,hz1,hz2⟩:=info_parts qmr;have hmk:=run_make (P:=prog) W 94 141 i0 (.agg #[.int .u64 0,.int .u64 0,.slice none 0 0,.bool false]) underlying94 hi hz0 .i64 .i64 (n:Int) (n:Int) (by omega) (Int.le_refl _) (by rw[hz2];omega) (by omega);rw[hz1]at hmk;rw[← qiT];simpa[Value.cells]using hmk
theorem qiU{l:List eA}{n k:Nat}(hl:l.length=k)(hk:k<n)(z:eA):(l++List.replicate (n-k) tC).set k z=(l++[z])++List.replicate (n-(k+1)) tC:=by
 rw[List.set_append_right _ _ (by omega),hl,Nat.sub_self,show n-k=(n-(k+1))+1 by omega,List.replicate_succ,List.set_cons_zero,List.append_assoc];rfl
structure Sn(b c n g:Nat)(s:St)(w:World)(k:Nat)(xs:List eA)(wr:World):Prop where
 len:xs.length=k
 is:xs.map (·.1)=(uB b k s).1
 row:qd wr g 141 (zG (xs++List.replicate (n-k) tC)).toArray
 qu:∀x∈xs,zj wr w.heap.size x.2 x.1.qu
 rd:Rd w c (uB b k s).2 wr
def qz7 (b c n g:Nat)(s:St)(w:World)(i:Value)(wr:World):Prop:=∃(k:Nat) (xs:List eA),k≤n∧i=.int .i64 (k:Int)∧Sn b c n g s w k xs wr
def qv1 (b c n:Nat)(s:St)(w:World)(e:Ending)(w':World):Prop:=∃g xs,e=.returned (.slice (some ⟨g,0,none⟩) n n)∧w.heap.size≤g∧Sn b c n g s w n xs w'
theorem qro{w:World}{kb rb pb c b:Nat}{s:St}(n:Nat)(hn:n≤100)(hb:b≤100)(h:PS w c s)(he:iG w kb rb pb c b) :
    Calls prog 204 #[.int .i64 (n:Int),.func (.func 205) #[] #[ptr rb,ptr pb]] w (qv1 b c n s w):=by
 have hmk:∀W,(Instr.makeSlice 94 (.int .i64 (n:Int)) (.int .i64 (n:Int))).run prog W=.ok (.slice (some ⟨W.heap.size,0,none⟩) n n) (W.alloc (.cells (zG (List.replicate n tC)).toArray 141)):=fun W=>qft n (by omega) W;have HP:=QH h;have HE:=QH he;clear h he;have hb0:=(Below.refl w.heap.size w).alloc (Nat.le_refl _) (.cells (zG (List.replicate n tC)).toArray 141);have HS0:Hid (Sn b c n w.heap.size s w 0 [] (w.alloc (.cells (zG (List.replicate n tC)).toArray 141))):=⟨rfl,rfl,qd.new w 141 _,fun x hx=>absurd hx (by simp),qB.of_below hb0,HP.out.below hb0⟩;clear hb0;go_enter func204,ntmps204;go_wp2_with fail;obtain⟨W0,hW0⟩:=QE (w.alloc (.cells (zG (List.replicate n tC)).toArray 141));rw[hW0]at HS0;try rw[hW0]
 clear hW0 hmk;obtain⟨g,hg⟩:=QE w.heap.size;have gJ:=QH (Nat.le_of_eq hg);have hS0:=HS0.out;rw[hg]at hS0;have dO:=QH hS0;try rw[hg]
 clear hg hS0 HS0;go_loopw [6,11] (fun _ i wr=>qz7 b c n g s w i wr) (fun _ i _=>n-(intOf i).toNat);case atStart=>exact⟨0,[],Nat.zero_le _,rfl,dO.out⟩
 case round =>
  obtain⟨k,xs,hk,rfl,hS⟩:=hrel;have HSK:=QH hS;clear hS;by_cases hlt:k<n
  ·have yr:(k:Int)<(n:Int):=by omega
   have HEK:=QH (HE.out.rd HP.out.blk HSK.out.rd);go_wp2_with fail;refine(qmF hb HSK.out.rd.ps HEK.out).mono ?_;rintro e W ⟨gi,rfl,hgi,hgB,hq⟩;have HQ:=QH hq;have rM:=QH (qlV b (uB b k s).2);have HGW:=QH (hq.blk HSK.out.row HSK.out.rd.ps.blk (by decide));have HIM:Hid (∀x∈xs,zj W w.heap.size x.2 x.1.qu):=fun x hx=>uH (HSK.out.qu x hx) (hq.kp HSK.out.rd.ps) (by decide);have HRW:=QH (HSK.out.rd.trans hq);have HOI:Hid (zj W w.heap.size (.slice (some ⟨gi,0,none⟩) b b) (nv b (uB b k s).2).1.qu):=by
    have h1:=qm7 (B:=w.heap.size) hgB (by have:=HSK.out.rd.but.size;omega) (by rw[rM.out.2.1];omega)
    rwa [rM.out.2.1]at h1
   have jC:=QH (sV b k s);have rN:=rM.out.2.1;obtain⟨x,hx⟩:=QE ((nv b (uB b k s).2).1);rw[hx]at rN HOI;rw[hx];have HX:=QH hx;unfold snC;rw[rN];have zbT:=QH rN;have eH:xs.length=k:=HSK.out.len;have HXL:=QH eH;have hrl:(zG (xs++List.replicate (n-k) tC)).length=n*4:=by rw[yU,List.length_append,List.length_replicate];omega
   have key:∀j,j<4→∃u,W.cell? ⟨g,k*4+j,none⟩=some u:=fun j hj=>by
    rw[HGW.out.cell (k*4+j)];have:k*4+j<(zG (xs++List.replicate (n-k) tC)).length:=by rw[hrl];omega
    exact⟨_,by rw[List.getElem?_toArray,List.getElem?_eq_getElem this]⟩
   obtain⟨u0,c0⟩:=key 0 (by omega);obtain⟨u1,c1⟩:=key 1 (by omega);obtain⟨u2,c2⟩:=key 2 (by omega);obtain⟨u3,c3⟩:=key 3 (by omega);rw[Nat.add_zero]at c0;have f0:=HGW.out.frozen (k*4);have f1:=HGW.out.frozen (k*4+1);have f2:=HGW.out.frozen (k*4+2);have f3:=HGW.out.frozen (k*4+3);have hlg:=HGW.out.lt;have q9s:k≤100:=by omega
   have s1:=HGW.out.qo (k*4) (.int .u64 (x.g.1:Int));have r1:=HRW.out.set HGW.out gJ.out (by decide) (by decide) (k*4) (.int .u64 (x.g.1:Int));have s2:=s1.qo (k*4+1) (.int .u64 (x.g.2:Int));have r2:=r1.set s1 gJ.out (by decide) (by decide) (k*4+1) (.int .u64 (x.g.2:Int));have s3:=s2.qo (k*4+2) (.slice (some ⟨gi,0,none⟩) b b);have r3:=r2.set s2 gJ.out (by decide) (by decide) (k*4+2) (.slice (some ⟨gi,0,none⟩) b b);have s4:=s3.qo (k*4+3) (.bool x.hid);have r4:=r3.set s3 gJ.out (by decide) (by decide) (k*4+3) (.bool x.hid);have kp:Kp 141 W ((((W.setCell ⟨g,k*4,none⟩ (.int .u64 (x.g.1:Int))).setCell ⟨g,k*4+1,none⟩ (.int .u64 (x.g.2:Int))).setCell ⟨g,k*4+2,none⟩ (.slice (some ⟨gi,0,none⟩) b b)).setCell ⟨g,k*4+3,none⟩ (.bool x.hid)) :=
    (((Kp.vJ (k*4) _ HGW.out).trans (Kp.vJ (k*4+1) _ s1)).trans (Kp.vJ (k*4+2) _ s2)).trans (Kp.vJ (k*4+3) _ s3)
   simp only[List.setIfInBounds_toArray]at s4;rw[tD (xs++List.replicate (n-k) tC) k (by rw[List.length_append,List.length_replicate];omega) (x,.slice (some ⟨gi,0,none⟩) b b) _ _ _ _ rfl,qiU eH hlt]at s4;have qc4:Hid (Sn b c n g s w (k+1) (xs++[(x,.slice (some ⟨gi,0,none⟩) b b)]) ((((W.setCell ⟨g,k*4,none⟩ (.int .u64 (x.g.1:Int))).setCell ⟨g,k*4+1,none⟩ (.int .u64 (x.g.2:Int))).setCell ⟨g,k*4+2,none⟩ (.slice (some ⟨gi,0,none⟩) b b)).setCell ⟨g,k*4+3,none⟩ (.bool x.hid))):=by
    refine⟨by rw[List.length_append,eH];rfl,?_,s4,?_,?_⟩
    ·rw[jC.out,HX.out,List.map_append,HSK.out.is];rfl
    ·intro y hy;rcases List.mem_append.1 hy with hy|hy
     ·exact uH (HIM.out y hy) kp (by decide)
     ·obtain rfl:y=(x,.slice (some ⟨gi,0,none⟩) b b):=by simpa using hy
      exact uH HOI.out kp (by decide)
    ·rw[jC.out];exact r4
   clear hq hgB hgi hx key s1 s2 s3 s4 r1 r2 r3 r4 kp hrl eH rN HSK HEK HGW HIM HRW HOI;go_wp2_with fail;go_roundw;case rel=>exact⟨k+1,_,by omega,by go_num,qc4.out⟩
   case measure=>simp[intOf];omega
  ·have yr:¬ (k:Int)<(n:Int):=by omega
   obtain rfl:k=n:=by omega
   go_wp2_with fail;go_ret;exact⟨g,xs,rfl,gJ.out,HSK.out⟩
end Go.Proofs.YtdpbdkacngaemaaGreatDoor.mt.pg
namespace Go.Proofs.YtdpbdkacngaemaaGreatDoor.mt
open _root_.Go.Proofs.Tryz Go Go.RowKit ib wi
def mC (v0 v1 v2:Value)(t:Tk):Array Value:=#[v0,v1,.int .u64 (t.base.1:Int),.int .u64 (t.base.2:Int),.int .u64 (t.target.1:Int),.int .u64 (t.target.2:Int),.int .i64 t.next,.int .i64 t.all,v2]
abbrev bV:Value:=.slice none 0 0
structure DS(w W:World)(p c gm b:Nat)(s:St)(v0 v1 v2:Value)(l:List Int)(xs:List eA)(t:Tk):Prop where
 below:Below w.heap.size w W
 rs:RS W p c b s
 m:qd W gm 103 (mC v0 v1 v2 t)
 res:qd W w.heap.size 103 (mC bV bV bV yB)
 live:zj W w.heap.size v0 l
 row:wS W w.heap.size v1 xs
 qu:zj W w.heap.size v2 t.qu
 pn:w.heap.size≤p
 cn:w.heap.size≤c
 gn:w.heap.size<gm
theorem QS.blk{w:World}{c:Nat}{s:St}(h:QS w c s):∃x,qd w c 208 x:=by
 unfold QS at h;split at h
 ·obtain⟨q,h1,_⟩:=h;exact⟨_,h1⟩
 ·obtain⟨q,_,h1,_⟩:=h;exact⟨_,h1⟩
theorem RS.kp{w w':World}{p c b:Nat}{s:St}(h:RS w p c b s)(hb:qB (Tc c) w w'):Kp 208 w w':=by
 obtain⟨x,hx⟩:=h.left.blk;exact Kp.nG hb hx
section
variable {w W W':World} {p c gm b:Nat} {s s':St} {v0 v1 v2:Value} {l:List Int} {xs:List eA} {t:Tk}
theorem DS.qz9{r:TypeId}(h:DS w W p c gm b s v0 v1 v2 l xs t)(hk:Kp r W W')(hb:Below w.heap.size w W')(hr:RS W' p c b s')(h1:103≠r)(h2:3≠r)(h3:141≠r):DS w W' p c gm b s' v0 v1 v2 l xs t :=
 ⟨hb,hr,hk _ _ _ h1 h.m,hk _ _ _ h1 h.res,uH h.live hk h2,h.row.kp hk h3 h2,uH h.qu hk h2,h.pn,h.cn,h.gn⟩
theorem DS.turn(h:DS w W p c gm b s v0 v1 v2 l xs t)(hb:qB (Tc c) W W')(hr:RS W' p c b s'):DS w W' p c gm b s' v0 v1 v2 l xs t :=
 h.qz9 (h.rs.kp hb) (h.below.trans (hb.below (B:=w.heap.size) (fun i hi=>by unfold Tc at hi;rw[hi];exact h.cn) h.below.size)) hr (by decide) (by decide) (by decide)
theorem DS.qmp{t':Tk}{v2':Value}(h:DS w W p c gm b s v0 v1 v2 l xs t)(k:Nat)(u:Value)(hm:(mC v0 v1 v2 t).setIfInBounds k u=mC v0 v1 v2' t')(hi:zj W w.heap.size v2' t'.qu) :
    DS w (W.setCell ⟨gm,k,none⟩ u) p c gm b s v0 v1 v2' l xs t':=by
 have hk2:=Kp.vJ k u h.m;have hb2:Below w.heap.size w (W.setCell ⟨gm,k,none⟩ u):=h.below.setCell (p:=⟨gm,k,none⟩) (Nat.le_of_lt h.gn) u;obtain⟨y,hy⟩:=h.rs.left.blk;refine⟨hb2,⟨hk2 _ _ _ (by decide) h.rs.blk,h.rs.ne,h.rs.left.block (qy _ _ _ _ _ (uG hy h.m (by decide)))⟩,?_,h.res.of_block (qy _ _ _ _ _ (by have:=h.gn;omega)),uH h.live hk2 (by decide),h.row.kp hk2 (by decide) (by decide),uH hi hk2 (by decide),h.pn,h.cn,h.gn⟩;rw[← hm];exact h.m.qo k u
def xS (W:World)(gm:Nat)(v2:Value)(t:Tk):World :=
 ((((((W.setCell ⟨gm,2,none⟩ (.int .u64 (t.base.1:Int))).setCell ⟨gm,3,none⟩ (.int .u64 (t.base.2:Int))).setCell ⟨gm,4,none⟩ (.int .u64 (t.target.1:Int))).setCell ⟨gm,5,none⟩ (.int .u64 (t.target.2:Int))).setCell ⟨gm,6,none⟩ (.int .i64 t.next)).setCell ⟨gm,7,none⟩ (.int .i64 t.all)).setCell ⟨gm,8,none⟩ v2
theorem DS.tok{t':Tk}{v2':Value}(h:DS w W p c gm b s v0 v1 bV l xs yB)(hi:zj W w.heap.size v2' t'.qu):DS w (xS W gm v2' t') p c gm b s v0 v1 v2' l xs t':=by
 have go:∀(k:Nat) (u:Value) {W:World} {t t2:Tk} {v v':Value},DS w W p c gm b s v0 v1 v l xs t→zj W w.heap.size v2' t'.qu→zj W w.heap.size v' t2.qu→(mC v0 v1 v t).setIfInBounds k u=mC v0 v1 v' t2→DS w (W.setCell ⟨gm,k,none⟩ u) p c gm b s v0 v1 v' l xs t2∧zj (W.setCell ⟨gm,k,none⟩ u) w.heap.size v2' t'.qu:=fun k u {W t t2 v v'} h1 h2 h3 h4 =>
  ⟨h1.qmp k u h4 h3,uH h2 (Kp.vJ k u h1.m) (by decide)⟩
 obtain⟨h1,i1⟩:=go 2 (.int .u64 (t'.base.1:Int)) (t2:=⟨(t'.base.1,0),(0,0),0,0,[]⟩) (v':=bV) h hi (dI _ _) rfl;obtain⟨h2,i2⟩:=go 3 (.int .u64 (t'.base.2:Int)) (t2:=⟨t'.base,(0,0),0,0,[]⟩) (v':=bV) h1 i1 (dI _ _) rfl;obtain⟨h3,i3⟩:=go 4 (.int .u64 (t'.target.1:Int)) (t2:=⟨t'.base,(t'.target.1,0),0,0,[]⟩) (v':=bV) h2 i2 (dI _ _) rfl;obtain⟨h4,i4⟩:=go 5 (.int .u64 (t'.target.2:Int)) (t2:=⟨t'.base,t'.target,0,0,[]⟩) (v':=bV) h3 i3 (dI _ _) rfl;obtain⟨h5,i5⟩:=go 6 (.int .i64 t'.next) (t2:=⟨t'.base,t'.target,t'.next,0,[]⟩) (v':=bV) h4 i4 (dI _ _) rfl;obtain⟨h6,i6⟩:=go 7 (.int .i64 t'.all) (t2:=⟨t'.base,t'.target,t'.next,t'.all,[]⟩) (v':=bV) h5 i5 (dI _ _) rfl;exact(go 8 v2' (t2:=t') (v':=v2') h6 i6 i6 rfl).1
end
structure tE(l:List Int)(xs:List Sp):Prop where
 live:yu l
 sn:∀x∈xs,yu x.qu∧xF x.g∧x.qu.length≤100
 nl:l.length≤100
 nx:xs.length≤100
structure eI(t:Tk):Prop where
 qu:yu t.qu
 few:t.qu.length≤100
 base:xF t.base
 target:xF t.target
 next:qG t.next
 all:qG t.all
theorem qv3:eI yB:=⟨fun z hz=>absurd hz (by simp[yB]),by simp[yB],bS,bS,by unfold qG yB;simp,by unfold qG yB;simp⟩
theorem qh9{W:World}{B:Nat}{v0 v1 v2:Value}{l:List Int}{xs:List eA}{t:Tk}(h0:zj W B v0 l)(h1:wS W B v1 xs)(h2:zj W B v2 t.qu)(hf:tE l (xs.map (·.1)))(ht:eI t):rW W (.agg (mC v0 v1 v2 t)) ⟨l,xs.map (·.1),t⟩:=by
 have i64:∀ {z:Int},0≤z∧z≤1048576→qG z:=fun h=>by unfold qG;omega
 have hsn:∀x∈xs,yu x.1.qu∧xF x.1.g:=fun x hx=>⟨(hf.sn _ (List.mem_map_of_mem hx)).1,(hf.sn _ (List.mem_map_of_mem hx)).2.1⟩;obtain⟨A0,c0,rfl,g0⟩:=qhz h0 (fun z hz=>i64 (hf.live z hz));obtain⟨A2,c2,rfl,g2⟩:=qhz h2 (fun z hz=>i64 (ht.qu z hz));obtain⟨A1,c1,rfl,g1,hr⟩:=h1.view (fun x hx' z hz=>i64 ((hsn x hx').1 z hz)) (fun x hx'=>(hsn x hx').2);exact⟨A0,A1,A2,c0,c1,c2,rfl,g0,g1,hr,g2,ht.base,ht.target,ht.next,ht.all⟩
theorem qv4{l:List Int}{xs:List Sp}{t:Tk}(hf:tE l xs)(ht:eI t):mtS ⟨l,xs,t⟩ :=
 ⟨by have:=hf.nl;show l.length≤1000;omega,by have:=hf.nx;show xs.length≤1000;omega,fun s hs=>by have:=(hf.sn s hs).2.2;omega,by have:=ht.few;show t.qu.length≤1000;omega⟩
def xO (W:World)(g:Nat)(v0 v1 v2:Value)(t:Tk):World :=
 xS ((W.setCell ⟨g,0,none⟩ v0).setCell ⟨g,1,none⟩ v1) g v2 t
theorem tF {W:World}{g:Nat}{v0 v1 v2 u0 u1 u2:Value}{t t':Tk}(h:qd W g 103 (mC u0 u1 u2 t')):qd (xO W g v0 v1 v2 t) g 103 (mC v0 v1 v2 t):=by
 have h9:=((((((((h.qo 0 v0).qo 1 v1).qo 2 (.int .u64 (t.base.1:Int))).qo 3 (.int .u64 (t.base.2:Int))).qo 4 (.int .u64 (t.target.1:Int))).qo 5 (.int .u64 (t.target.2:Int))).qo 6 (.int .i64 t.next)).qo 7 (.int .i64 t.all)).qo 8 v2;simp only[mC,List.setIfInBounds_toArray,List.set_cons_succ,List.set_cons_zero]at h9;exact h9
theorem qc5{W:World}{g:Nat}{v0 v1 v2:Value}{t:Tk}{cs:Array Value}(h:qd W g 103 cs):Kp 103 W (xO W g v0 v1 v2 t):=by
 have go:∀(k:Nat) (u:Value) {W':World},Kp 103 W W'∧(∃cs,qd W' g 103 cs)→Kp 103 W (W'.setCell ⟨g,k,none⟩ u)∧(∃cs,qd (W'.setCell ⟨g,k,none⟩ u) g 103 cs):=fun k u W' ⟨h1,cs,h2⟩ =>
  ⟨h1.trans (Kp.vJ k u h2),_,h2.qo k u⟩
 exact(go 8 v2 (go 7 _ (go 6 _ (go 5 _ (go 4 _ (go 3 _ (go 2 _ (go 1 v1 (go 0 v0 ⟨Kp.refl _ _,_,h⟩))))))))).1
theorem dP {w W:World}{B g:Nat}{v0 v1 v2:Value}{t:Tk}(h:Below B w W)(hg:B≤g):Below B w (xO W g v0 v1 v2 t) :=
 ((((((((h.setCell (p:=⟨g,0,none⟩) hg v0).setCell (p:=⟨g,1,none⟩) hg v1).setCell (p:=⟨g,2,none⟩) hg _).setCell (p:=⟨g,3,none⟩) hg _).setCell (p:=⟨g,4,none⟩) hg _).setCell (p:=⟨g,5,none⟩) hg _).setCell (p:=⟨g,6,none⟩) hg _).setCell (p:=⟨g,7,none⟩) hg _).setCell (p:=⟨g,8,none⟩) hg v2
section
variable {w W W':World} {p c gm b:Nat} {s s':St} {v0 v1 v2:Value} {l:List Int} {xs:List eA} {t:Tk}
theorem DS.at_(h:DS w W p c gm b s v0 v1 v2 l xs t)(hf:tE l (xs.map (·.1)))(ht:eI t):rW W (.agg (mC v0 v1 v2 t)) ⟨l,xs.map (·.1),t⟩:=qh9 h.live h.row h.qu hf ht
end
end Go.Proofs.YtdpbdkacngaemaaGreatDoor.mt
namespace Go.Proofs.YtdpbdkacngaemaaGreatDoor.mt.pg
open _root_.Go.Proofs.Tryz Go Go.RowKit ib wi im mt
def mZ (v0 v1:Value):Array Value:=#[v0,v1,.int .u64 0,.int .u64 0,.int .u64 0,.int .u64 0,.int .i64 0,.int .i64 0,.slice none 0 0]
structure TK(w W:World)(gR gm kb rb pb c b:Nat)(s:St)(v0 v1:Value)(l:List Int)(xs:List eA):Prop where
 rd:Rd w c s W
 env:iG W kb rb pb c b
 res:qd W gR 103 (mZ (.slice none 0 0) (.slice none 0 0))
 m:qd W gm 103 (mZ v0 v1)
 live:zj W w.heap.size v0 l
 row:wS W w.heap.size v1 xs
 rn:w.heap.size≤gR
 gn:gR<gm
section
variable {w W W':World} {gR gm kb rb pb c b:Nat} {s s':St} {v0 v1:Value} {l:List Int} {xs:List eA}
theorem TK.next(h:TK w W gR gm kb rb pb c b s v0 v1 l xs)(hr:Rd W c s' W'):TK w W' gR gm kb rb pb c b s' v0 v1 l xs :=
 ⟨h.rd.trans hr,h.env.rd h.rd.ps.blk hr,hr.blk h.res h.rd.ps.blk (by decide),hr.blk h.m h.rd.ps.blk (by decide),uH h.live (hr.kp h.rd.ps) (by decide),h.row.kp (hr.kp h.rd.ps) (by decide) (by decide),h.rn,h.gn⟩
theorem iG.kp{kb rb pb c b:Nat}(h:iG W kb rb pb c b)(hk:Kp 103 W W'):iG W' kb rb pb c b:=⟨⟨hk _ _ _ (by decide) h.e.k,hk _ _ _ (by decide) h.e.r⟩,hk _ _ _ (by decide) h.p⟩
theorem TK.qmo{l':List Int}(h:TK w W gR gm kb rb pb c b s v0 v1 l xs)(v:Value)(hv:zj W w.heap.size v l'):TK w (W.setCell ⟨gm,0,none⟩ v) gR gm kb rb pb c b s v v1 l' xs:=by
 have hk:=Kp.vJ 0 v h.m;have:=h.rn;have:=h.gn;exact⟨h.rd.set h.m (by omega) (by decide) (by decide) 0 v,h.env.kp hk,h.res.of_block (qy _ _ _ _ _ (by omega)),h.m.qo 0 v,uH hv hk (by decide),h.row.kp hk (by decide) (by decide),h.rn,h.gn⟩
theorem TK.qmp{xs':List eA}(h:TK w W gR gm kb rb pb c b s v0 v1 l xs)(v:Value)(hv:wS W w.heap.size v xs'):TK w (W.setCell ⟨gm,1,none⟩ v) gR gm kb rb pb c b s v0 v l xs':=by
 have hk:=Kp.vJ 1 v h.m;have:=h.rn;have:=h.gn;exact⟨h.rd.set h.m (by omega) (by decide) (by decide) 1 v,h.env.kp hk,h.res.of_block (qy _ _ _ _ _ (by omega)),h.m.qo 1 v,uH h.live hk (by decide),hv.kp hk (by decide) (by decide),h.rn,h.gn⟩
end
theorem qrp{w W:World}{b c n g:Nat}{s:St}{xs:List eA}{B:Nat}(h:Sn b c n g s w n xs W)(hg:B≤g)(hB:B≤w.heap.size)(hn:n≤1000):wS W B (.slice (some ⟨g,0,none⟩) n n) xs:=by
 have hr:=h.row;rw[Nat.sub_self,List.replicate_zero,List.append_nil]at hr;have hl:=h.len;refine⟨⟨by rw[yU],.inr ⟨g,n,(zG xs).toArray,by rw[hl],hg,hr,by omega,by unfold maxLen;omega,by rw[List.size_toArray,yU,hl],?_⟩⟩,fun x hx=>nE (h.qu x hx) hB⟩;rw[List.take_of_length_le (by rw[yU];omega)]
theorem qiV{a W:World}{c gm:Nat}{s:St}{cs:Array Value}{v:Value}{t:Tk}(h:Rd a c s W)(hm:qd W gm 103 cs)(hn:a.heap.size≤gm):Rd a c s (xS W gm v t):=by
 have go:∀(k:Nat) (u:Value) {W':World},(Rd a c s W'∧∃cs,qd W' gm 103 cs)→(Rd a c s (W'.setCell ⟨gm,k,none⟩ u)∧∃cs,qd (W'.setCell ⟨gm,k,none⟩ u) gm 103 cs):=fun k u W' ⟨h1,cs,h2⟩=>⟨h1.set h2 hn (by decide) (by decide) k u,_,h2.qo k u⟩;exact(go 8 v (go 7 _ (go 6 _ (go 5 _ (go 4 _ (go 3 _ (go 2 _ ⟨h,cs,hm⟩))))))).1
theorem qiW{W:World}{g:Nat}{v:Value}{t:Tk}{cs:Array Value}(h:qd W g 103 cs):Kp 103 W (xS W g v t):=by
 have go:∀(k:Nat) (u:Value) {W':World},Kp 103 W W'∧(∃cs,qd W' g 103 cs)→Kp 103 W (W'.setCell ⟨g,k,none⟩ u)∧(∃cs,qd (W'.setCell ⟨g,k,none⟩ u) g 103 cs):=fun k u W' ⟨h1,cs,h2⟩ =>
  ⟨h1.trans (Kp.vJ k u h2),_,h2.qo k u⟩
 exact(go 8 v (go 7 _ (go 6 _ (go 5 _ (go 4 _ (go 3 _ (go 2 _ ⟨Kp.refl _ _,_,h⟩))))))).1
theorem bW {W:World}{g:Nat}{v0 v1 v:Value}{t:Tk}(h:qd W g 103 (mZ v0 v1)):qd (xS W g v t) g 103 (mC v0 v1 v t):=by
 have h9:=((((((h.qo 2 (.int .u64 (t.base.1:Int))).qo 3 (.int .u64 (t.base.2:Int))).qo 4 (.int .u64 (t.target.1:Int))).qo 5 (.int .u64 (t.target.2:Int))).qo 6 (.int .i64 t.next)).qo 7 (.int .i64 t.all)).qo 8 v;simp only[mZ,List.setIfInBounds_toArray,List.set_cons_succ,List.set_cons_zero]at h9;exact h9
theorem qfw{W:World}{g j:Nat}{v:Value}{t:Tk}(hj:j≠g):(xS W g v t).heap[j]?=W.heap[j]? :=by
 unfold xS;rw[qy _ _ _ _ _ hj,qy _ _ _ _ _ hj,qy _ _ _ _ _ hj,qy _ _ _ _ _ hj,qy _ _ _ _ _ hj,qy _ _ _ _ _ hj,qy _ _ _ _ _ hj]
structure Fin(w W:World)(gR gm c:Nat)(v0 v1 v2:Value)(m:Mt):Prop where
 but:qB (Tc c) w W
 res:qd W gR 103 (mZ (.slice none 0 0) (.slice none 0 0))
 mm:qd W gm 103 (mC v0 v1 v2 m.tok)
 at_:∃xs,zj W w.heap.size v0 m.live∧wS W w.heap.size v1 xs∧zj W w.heap.size v2 m.tok.qu∧xs.map (·.1)=m.qc
 ok:tE m.live m.qc∧eI m.tok
 rn:w.heap.size≤gR
structure Own(w:World)(B:Nat)(v0 v1 v2:Value)(m:Mt):Prop where
 at_:∃xs,zj w B v0 m.live∧wS w B v1 xs∧zj w B v2 m.tok.qu∧xs.map (·.1)=m.qc
 ok:tE m.live m.qc∧eI m.tok
theorem Own.kp{w w':World}{B:Nat}{v0 v1 v2:Value}{m:Mt}{r:TypeId}(h:Own w B v0 v1 v2 m)(hk:Kp r w w')(h1:141≠r)(h2:3≠r):Own w' B v0 v1 v2 m:=by
 obtain⟨xs,a,b,c,d⟩:=h.at_;exact⟨⟨xs,uH a hk h2,b.kp hk h1 h2,uH c hk h2,d⟩,h.ok⟩
theorem Own.mt{w:World}{B:Nat}{v0 v1 v2:Value}{m:Mt}(h:Own w B v0 v1 v2 m):rW w (.agg (mC v0 v1 v2 m.tok)) m:=by
 obtain⟨xs,a,b,c,d⟩:=h.at_;have:=qh9 a b c (by rw[d];exact h.ok.1) h.ok.2;rw[d]at this;exact this
def qt6 (c:Nat)(s:St)(w:World)(e:Ending)(w':World):Prop:=∃v0 v1 v2,e=.returned (.agg (mC v0 v1 v2 (mP s).tok))∧Own w' w.heap.size v0 v1 v2 (mP s)∧qB (Tc c) w w'
theorem Fin.done{w W:World}{gR gm c:Nat}{v0 v1 v2:Value}{m:Mt}(h:Fin w W gR gm c v0 v1 v2 m):qd (xO W gR v0 v1 v2 m.tok) gR 103 (mC v0 v1 v2 m.tok)∧Own (xO W gR v0 v1 v2 m.tok) w.heap.size v0 v1 v2 m∧qB (Tc c) w (xO W gR v0 v1 v2 m.tok):=by
 have hk:=qc5 (v0:=v0) (v1:=v1) (v2:=v2) (t:=m.tok) h.res;obtain⟨xs,h1,h2,h3,h4⟩:=h.at_;have hr:qd W gR 103 (mC bV bV bV yB):=h.res;have ha:Own (xO W gR v0 v1 v2 m.tok) w.heap.size v0 v1 v2 m:=Own.kp ⟨h.at_,h.ok⟩ hk (by decide) (by decide);have hb:qB (Tc c) w (xO W gR v0 v1 v2 m.tok):=by
  have go:∀(k:Nat) (u:Value) {W':World},qB (Tc c) w W'→qB (Tc c) w (W'.setCell ⟨gR,k,none⟩ u):=fun k u W' h1=>h1.setCell _ _ (.inr h.rn);exact go 8 _ (go 7 _ (go 6 _ (go 5 _ (go 4 _ (go 3 _ (go 2 _ (go 1 _ (go 0 _ h.but))))))))
 exact⟨tF hr,ha,hb⟩
theorem qhA{W:World}{g:Nat}{v0 v1 v2:Value}{t:Tk}(h:qd W g 103 (mC v0 v1 v2 t)):(loadVar 103 ⟨g,0,none⟩).run prog W=.ok (.agg (mC v0 v1 v2 t)) W :=
 run_loadVar_row W g 103 103 _ (0,0) _ h underlying103 rfl (by kernel_rfl)
theorem qmK{W:World}{g:Nat}{v0 v1 v2:Value}{t:Tk}(h:qd W g 103 (mC v0 v1 v2 t))(tm:Array Value)(hp:tm.getD 2 undef=.pointer (some ⟨g,0,none⟩)) :
    (results Tryz.f124 tm).run prog W=.ok (.agg (mC v0 v1 v2 t)) W:=by
 have hl:=qhA h;generalize mC v0 v1 v2 t=X at *;exact zh results124 tm _ _ ⟨g,0,none⟩ _ hp hl
theorem qc6{w WE:World}{gR c:Nat}{s:St}{v0 v1 v2:Value}{m:Mt}(a:Act)(ha:a.defers=[])(hp:a.tmps.getD 2 undef=.pointer (some ⟨gR,0,none⟩))(hm:mP s=m)
    (h:qd WE gR 103 (mC v0 v1 v2 m.tok)∧Own WE w.heap.size v0 v1 v2 m∧qB (Tc c) w WE):bodyPost prog Tryz.f124 (qt6 c s w) .ret a WE :=
 bodyPost_ret (qmK h.1 a.tmps hp) ha ⟨v0,v1,v2,by rw[hm],by rw[hm];exact h.2.1,h.2.2⟩
theorem kN {w:World}{c:Nat}{s:St}(h:PS w c s):Calls prog 124 #[ptr c] w (qt6 c s w):=by
 have HP0:=QH h;have hb1:=(Below.refl w.heap.size w).alloc (Nat.le_refl _) (.cells #[ptr c] 198);have hr1:Rd w c s (w.alloc (.cells #[ptr c] 198)):=⟨qB.of_below hb1,h.below hb1⟩;have ha1:=qd.new w 198 #[ptr c];obtain⟨W1,hW1⟩:=QE (w.alloc (.cells #[ptr c] 198));rw[hW1]at hr1 ha1 hb1;have hb2:=(Below.refl W1.heap.size W1).alloc (Nat.le_refl _) (.cells (mZ (.slice none 0 0) (.slice none 0 0)) 103);have hr2:=hr1.new hb2;have ha2:=qd.new W1 103 (mZ (.slice none 0 0) (.slice none 0 0));obtain⟨W2,hW2⟩:=QE (W1.alloc (.cells (mZ (.slice none 0 0) (.slice none 0 0)) 103));rw[hW2]at hr2 ha2 hb2;have jO:=QH hr2;have qC:=QH (ha1.below hb2);have wh:=QH ha2;have HRN:Hid (w.heap.size≤W1.heap.size):=hb1.size;obtain⟨gR,hgR⟩:=QE W1.heap.size;rw[hgR]at wh HRN;obtain⟨rb,hrb⟩:=QE w.heap.size;have HRB:=QH hrb;have hB2:=qC.out;rw[hrb]at hB2;have HX2:=QH hB2;have r0:=hB2.cell 0;simp only[QA,QB,QC]at r0;have hlr:=hB2.lt;clear h hb1 hr1 ha1 hb2 hr2 ha2 hB2 qC;unfold mZ at hW2;go_enter func124,ntmps124;go_upto_region 1 with fail;try rw[hrb]
 try rw[hW1]
 try rw[hW2]
 try rw[hgR]
 clear hW1 hW2 hgR hrb;go_wp2_with fail;refine(dK jO.out.ps 8 8 rfl (by omega)).mono ?_;rintro e W3 ⟨rfl,hq⟩;have qv5:=jO.out.trans hq;have hA3:=hq.blk wh.out jO.out.ps.blk (by decide);have hX3:=hq.blk HX2.out jO.out.ps.blk (by decide);clear hq wh HX2 r0 hlr jO;have hbb:=iz 8 s;obtain⟨b,hbE⟩:=QE ((kP 8 s).1);rw[hbE]at hbb ⊢;have bH:=QH hbE;obtain⟨s1,hs1⟩:=QE ((kP 8 s).2);rw[hs1]at qv5;have dO:=QH hs1;have HBB:=QH hbb;clear hs1 hbE hbb;have hb4:=(Below.refl W3.heap.size W3).alloc (Nat.le_refl _) (.cells #[.int .i64 (b:Int)] 3);have hK4:=qd.new W3 3 #[.int .i64 (b:Int)];obtain⟨W4,ic⟩:=QE (W3.alloc (.cells #[.int .i64 (b:Int)] 3));rw[ic]at hb4 hK4;obtain⟨kb,hkb⟩:=QE W3.heap.size;rw[hkb]at hK4;have qzA:=QH (qv5.new hb4);have my:=QH (hA3.below hb4);have HX4:=QH (hX3.below hb4);have tG:=QH hK4;clear qv5 hA3 hX3 hb4 hK4;go_upto_region 2 with fail;try rw[hkb]
 try rw[ic]
 clear ic hkb;have hb5:=(Below.refl W4.heap.size W4).alloc (Nat.le_refl _) (.cells #[plF kb rb] 211);have hP5:=qd.new W4 211 #[plF kb rb];obtain⟨W5,fZ⟩:=QE (W4.alloc (.cells #[plF kb rb] 211));rw[fZ]at hb5 hP5;obtain⟨pb,hpb⟩:=QE W4.heap.size;rw[hpb]at hP5;have qzB:=QH (qzA.out.new hb5);have HA5:=QH (my.out.below hb5);have HE5:Hid (iG W5 kb rb pb c b):=⟨⟨tG.out.below hb5,HX4.out.below hb5⟩,hP5⟩;clear qzA my HX4 tG hb5 hP5;go_upto_region 3 with fail;try rw[hpb]
 try rw[fZ]
 clear fZ hpb;have dz:=(Below.refl W5.heap.size W5).alloc (Nat.le_refl _) (.cells (mZ (.slice none 0 0) (.slice none 0 0)) 103);have hM6:=qd.new W5 103 (mZ (.slice none 0 0) (.slice none 0 0));obtain⟨W6,hW6⟩:=QE (W5.alloc (.cells (mZ (.slice none 0 0) (.slice none 0 0)) 103));rw[hW6]at dz hM6;have HGN:Hid (gR<W5.heap.size):=HA5.out.lt;obtain⟨gm,hgm⟩:=QE W5.heap.size;rw[hgm]at hM6 HGN;have iE:Hid (TK w W6 gR gm kb rb pb c b s1 (.slice none 0 0) (.slice none 0 0) [] []):=⟨qzB.out.new dz,HE5.out.below dz,HA5.out.below dz,hM6,dI _ _,wS.nil _ _,HRN.out,HGN.out⟩;clear qzB HA5 HE5 dz hM6;unfold mZ at hW6;go_upto_region 4 with fail;try rw[hgm]
 try rw[hW6]
 clear hW6 hgm;have p0:=iE.out.env.p.cell 0;simp only[QA,QB,QC]at p0;have hlp:=iE.out.env.p.lt;go_wp2_with fail;refine(uI (by have:=HBB.out;omega) iE.out.rd.ps iE.out.env.e.k iE.out.env.e.r).mono ?_;rintro e W7 ⟨g0,rfl,hg0,qzD,hq⟩;have HT7:=QH (iE.out.next hq);have hv:=qm7 (B:=w.heap.size) qzD (by have:=iE.out.rd.but.size;omega) (by rw[ug];have:=HBB.out;omega);rw[ug]at hv;have nH:=QH hv;clear hq hv hg0 qzD p0 hlp iE;have HLV:Hid (gX b s1=lz s):=by unfold Hid lz;rw[bH.out,dO.out]
 obtain⟨ls,hls⟩:=QE (gX b s1);rw[hls]at HT7 nH HLV;clear hls;obtain⟨l,hl⟩:=QE ls.1;rw[hl]at nH;have HLE:=QH hl;clear hl;have q0:=HT7.out.m.cell 0;simp only[mZ,QA,QB,QC]at q0;have f0:=HT7.out.m.frozen 0;have hlm:=HT7.out.m.lt;have HT8:=QH (HT7.out.qmo (.slice (some ⟨g0,0,none⟩) b b) nH.out);obtain⟨W8,rL⟩:=QE (W7.setCell ⟨gm,0,none⟩ (.slice (some ⟨g0,0,none⟩) b b));rw[rL]at HT8;clear HT7 nH;go_upto_region 5 with fail;try rw[rL]
 clear rL q0 f0 hlm;have r0:=HT8.out.env.e.r.cell 0;simp only[QA,QB,QC]at r0;have hlr:=HT8.out.env.e.r.lt;go_wp2_with fail;refine(dK HT8.out.rd.ps 20 20 rfl (by omega)).mono ?_;rintro e W9 ⟨rfl,hq⟩;have HT9:=QH (HT8.out.next hq);clear hq r0 hlr HT8;have hnb:=iz 20 ls.2;obtain⟨n,hnE⟩:=QE ((kP 20 ls.2).1);rw[hnE]at hnb ⊢;have tH:=QH hnE;have HNB:=QH hnb;clear hnE hnb;go_wp2_with fail;refine(qro n (by have:=HNB.out;omega) (by have:=HBB.out;omega) HT9.out.rd.ps HT9.out.env).mono ?_;rintro e W10 ⟨gs,xs,rfl,hgs,hsn⟩;have sj:=QH (HT9.out.next hsn.rd);have HW9:Hid (w.heap.size≤W9.heap.size):=HT9.out.rd.but.size;have HV1:=QH (qrp (B:=w.heap.size) hsn (by have:=HW9.out;omega) HW9.out (by have:=HNB.out;omega));have HSE:Hid (xs.map (·.1)=(uB b n (kP 20 ls.2).2).1):=hsn.is;have HXL:Hid (xs.length=n):=hsn.len;clear hsn hgs HT9;have HAL:Hid (uB b n (kP 20 ls.2).2=qeM s):=by unfold Hid qeM;rw[bH.out,← HLV.out,tH.out]
 obtain⟨ss,hss⟩:=QE (uB b n (kP 20 ls.2).2);rw[hss]at sj HSE HAL;have HSO:Hid (∀x∈ss.1,yu x.qu∧x.qu.length=b∧xF x.g):=by rw[← hss];exact qaD _ _ _
 clear hss;have q1:=sj.out.m.cell 1;simp only[mZ,QA,QB,QC]at q1;have f1:=sj.out.m.frozen 1;have hlm:=sj.out.m.lt;have iF:=QH (sj.out.qmp (.slice (some ⟨gs,0,none⟩) n n) HV1.out);obtain⟨W11,qv8⟩:=QE (W10.setCell ⟨gm,1,none⟩ (.slice (some ⟨gs,0,none⟩) n n));rw[qv8]at iF;clear sj HV1;go_upto_region 6 with fail;try rw[qv8]
 clear qv8 q1 f1 hlm;have r0:=iF.out.env.e.r.cell 0;simp only[QA,QB,QC]at r0;have hlr:=iF.out.env.e.r.lt;go_wp2_with fail;refine(dJ iF.out.rd.ps).mono ?_;rintro e W12 ⟨rfl,hq⟩;have vM:=QH (iF.out.next hq);clear hq r0 hlr iF;have lJ:Hid (tE l ss.1):=by
  have hl1:l.length=b∧yu l:=by
   rw[← HLE.out,HLV.out];unfold lz;rw[bH.out];exact⟨ug _ _,qaC _ _⟩
  refine⟨hl1.2,fun x hx=>⟨(HSO.out x hx).1,(HSO.out x hx).2.2,by have:=(HSO.out x hx).2.1;have:=HBB.out;omega⟩,by have:=HBB.out;omega,?_⟩;rw[← HSE.out,List.length_map,HXL.out];have:=HNB.out;omega
 have HMP:Hid (mP s=⟨l,ss.1,if (xd ss.2).1=1 then(rV b (xd ss.2).2).1 else yB⟩):=by unfold Hid mP;rw[← HLV.out,← HAL.out,bH.out,HLE.out]
 obtain⟨fl,gY⟩:=QE ((xd ss.2).1);rw[gY]at HMP ⊢;obtain⟨s3,hs3⟩:=QE ((xd ss.2).2);rw[hs3]at HMP vM;clear gY hs3 HSO HAL HLV;by_cases h1:fl=1
 ·have hq:((fl:Int) == 1)=true:=by rw[h1];rfl
  have bI:Hid (mP s=⟨l,ss.1,(rV b s3).1⟩):=by unfold Hid;rw[HMP.out,if_pos h1]
  clear h1 HMP;have r0:=vM.out.env.e.r.cell 0;simp only[QA,QB,QC]at r0;have hlr:=vM.out.env.e.r.lt;have p0:=vM.out.env.p.cell 0;simp only[QA,QB,QC]at p0;have hlp:=vM.out.env.p.lt;go_wp2_with fail;refine(iC (by have:=HBB.out;omega) vM.out.rd.ps vM.out.env.e).mono ?_;rintro e W13 ⟨gt,rfl,hgt,qzE,hq⟩;have uh:=QH (vM.out.next hq);have HTL:Hid ((rV b s3).1.qu.length=b∧yu (rV b s3).1.qu∧(rV b s3).1.next≤9∧0≤(rV b s3).1.next∧(rV b s3).1.all≤9∧0≤(rV b s3).1.all):=by
   have e1:=iz 8 (kS (kS s3).2).2;have e2:=iz 8 (kP 8 (kS (kS s3).2).2).2;exact⟨ug _ _,qaC _ _,by show((kP 8 (kS (kS s3).2).2).1:Int)≤9;omega,by show(0:Int)≤((kP 8 (kS (kS s3).2).2).1:Int);omega,by show((kP 8 (kP 8 (kS (kS s3).2).2).2).1:Int)≤9;omega,by show(0:Int)≤((kP 8 (kP 8 (kS (kS s3).2).2).2).1:Int);omega⟩
  have HTB:=QH (qlX b s3);have hv:=qm7 (B:=w.heap.size) qzE (by have:=vM.out.rd.but.size;omega) (by rw[HTL.out.1];have:=HBB.out;omega);rw[HTL.out.1]at hv;obtain⟨t,ht⟩:=QE ((rV b s3).1);rw[ht]at hv HTL HTB bI;unfold dn;rw[ht,HTL.out.1];have HV2:=QH hv;clear hq hv hgt qzE r0 hlr p0 hlp vM ht;have wV:=uh.out.m;have m2:=wV.cell 2;have m3:=wV.cell 3;have m4:=wV.cell 4;have m5:=wV.cell 5;have m6:=wV.cell 6;have m7:=wV.cell 7;have m8:=wV.cell 8;simp only[mZ,QA,QB,QC]at m2 m3 m4 m5 m6 m7 m8;have f2:=wV.frozen 2;have f3:=wV.frozen 3;have f4:=wV.frozen 4;have f5:=wV.frozen 5;have f6:=wV.frozen 6;have f7:=wV.frozen 7;have f8:=wV.frozen 8;have hlm:=wV.lt;have hk:=qiW (v:=.slice (some ⟨gt,0,none⟩) b b) (t:=t) wV;have HF:Hid (Fin w (xS W13 gm (.slice (some ⟨gt,0,none⟩) b b) t) gR gm c (.slice (some ⟨g0,0,none⟩) b b) (.slice (some ⟨gs,0,none⟩) n n) (.slice (some ⟨gt,0,none⟩) b b) ⟨l,ss.1,t⟩) :=
   ⟨(qiV uh.out.rd wV (by have:=uh.out.rn;have:=uh.out.gn;omega)).but,uh.out.res.of_block (qfw (by have:=uh.out.gn;omega)),bW wV,
    ⟨xs,uH uh.out.live hk (by decide),uh.out.row.kp hk (by decide) (by decide),uH HV2.out hk (by decide),HSE.out⟩,
    ⟨lJ.out,⟨HTL.out.2.1,by show t.qu.length≤100;have:=HTL.out.1;have:=HBB.out;omega,HTB.out.1,HTB.out.2,by show qG t.next;unfold qG;have:=HTL.out;omega,by show qG t.all;unfold qG;have:=HTL.out;omega⟩⟩,uh.out.rn⟩
  obtain⟨W14,mv⟩:=QE (xS W13 gm (.slice (some ⟨gt,0,none⟩) b b) t);rw[mv]at HF;unfold xS at mv;clear uh HV2 hk wV;go_upto_region 8 with fail;try rw[mv]
  clear mv m2 m3 m4 m5 m6 m7 m8 f2 f3 f4 f5 f6 f7 f8 hlm;have m0:=HF.out.mm.cell 0;have m1:=HF.out.mm.cell 1;have m2:=HF.out.mm.cell 2;have m3:=HF.out.mm.cell 3;have m4:=HF.out.mm.cell 4;have m5:=HF.out.mm.cell 5;have m6:=HF.out.mm.cell 6;have m7:=HF.out.mm.cell 7;have m8:=HF.out.mm.cell 8;have a0:=HF.out.res.cell 0;have a1:=HF.out.res.cell 1;have a2:=HF.out.res.cell 2;have a3:=HF.out.res.cell 3;have a4:=HF.out.res.cell 4;have a5:=HF.out.res.cell 5;have a6:=HF.out.res.cell 6;have a7:=HF.out.res.cell 7;have a8:=HF.out.res.cell 8;simp only[mC,mZ,QA,QB,QC]at m0 m1 m2 m3 m4 m5 m6 m7 m8 a0 a1 a2 a3 a4 a5 a6 a7 a8;have f0:=HF.out.res.frozen 0;have f1:=HF.out.res.frozen 1;have f2:=HF.out.res.frozen 2;have f3:=HF.out.res.frozen 3;have f4:=HF.out.res.frozen 4;have f5:=HF.out.res.frozen 5;have f6:=HF.out.res.frozen 6;have f7:=HF.out.res.frozen 7;have f8:=HF.out.res.frozen 8;have hlm:=HF.out.mm.lt;have br:=HF.out.res.lt;have HD:=QH HF.out.done;go_wp2_with fail;show bodyPost _ _ _ _ _ (xO W14 gR (.slice (some ⟨g0,0,none⟩) b b) (.slice (some ⟨gs,0,none⟩) n n) (.slice (some ⟨gt,0,none⟩) b b) t);obtain⟨WE,mR⟩:=QE (xO W14 gR (.slice (some ⟨g0,0,none⟩) b b) (.slice (some ⟨gs,0,none⟩) n n) (.slice (some ⟨gt,0,none⟩) b b) t);have HD2:=HD.out;try dsimp only at HD2
  rw[mR]at HD2 ⊢;have HD3:=QH HD2;clear HD2 mR HD m0 m1 m2 m3 m4 m5 m6 m7 m8 a0 a1 a2 a3 a4 a5 a6 a7 a8 f0 f1 f2 f3 f4 f5 f6 f7 f8;exact qc6 (gR:=gR) (v0:=.slice (some ⟨g0,0,none⟩) b b) (v1:=.slice (some ⟨gs,0,none⟩) n n) (v2:=(.slice (some ⟨gt,0,none⟩) b b)) (m:=⟨l,ss.1,t⟩) _ rfl (by simp) bI.out HD3.out
 ·have hq:((fl:Int) == 1)=false:=by simp;omega
  have bI:Hid (mP s=⟨l,ss.1,yB⟩):=by unfold Hid;rw[HMP.out,if_neg h1]
  clear h1 HMP;have HF:Hid (Fin w W12 gR gm c (.slice (some ⟨g0,0,none⟩) b b) (.slice (some ⟨gs,0,none⟩) n n) (.slice none 0 0) ⟨l,ss.1,yB⟩) :=
   ⟨vM.out.rd.but,vM.out.res,vM.out.m,⟨xs,vM.out.live,vM.out.row,dI _ _,HSE.out⟩,⟨lJ.out,qv3⟩,vM.out.rn⟩
  go_upto_region 8 with fail;have m0:=HF.out.mm.cell 0;have m1:=HF.out.mm.cell 1;have m2:=HF.out.mm.cell 2;have m3:=HF.out.mm.cell 3;have m4:=HF.out.mm.cell 4;have m5:=HF.out.mm.cell 5;have m6:=HF.out.mm.cell 6;have m7:=HF.out.mm.cell 7;have m8:=HF.out.mm.cell 8;have a0:=HF.out.res.cell 0;have a1:=HF.out.res.cell 1;have a2:=HF.out.res.cell 2;have a3:=HF.out.res.cell 3;have a4:=HF.out.res.cell 4;have a5:=HF.out.res.cell 5;have a6:=HF.out.res.cell 6;have a7:=HF.out.res.cell 7;have a8:=HF.out.res.cell 8;simp only[mC,mZ,QA,QB,QC]at m0 m1 m2 m3 m4 m5 m6 m7 m8 a0 a1 a2 a3 a4 a5 a6 a7 a8;have f0:=HF.out.res.frozen 0;have f1:=HF.out.res.frozen 1;have f2:=HF.out.res.frozen 2;have f3:=HF.out.res.frozen 3;have f4:=HF.out.res.frozen 4;have f5:=HF.out.res.frozen 5;have f6:=HF.out.res.frozen 6;have f7:=HF.out.res.frozen 7;have f8:=HF.out.res.frozen 8;have hlm:=HF.out.mm.lt;have br:=HF.out.res.lt;have HD:=QH HF.out.done;go_wp2_with fail;show bodyPost _ _ _ _ _ (xO W12 gR (.slice (some ⟨g0,0,none⟩) b b) (.slice (some ⟨gs,0,none⟩) n n) (.slice none 0 0) yB);obtain⟨WE,mR⟩:=QE (xO W12 gR (.slice (some ⟨g0,0,none⟩) b b) (.slice (some ⟨gs,0,none⟩) n n) (.slice none 0 0) yB);have HD2:=HD.out;try dsimp only at HD2
  rw[mR]at HD2 ⊢;have HD3:=QH HD2;clear HD2 mR HD m0 m1 m2 m3 m4 m5 m6 m7 m8 a0 a1 a2 a3 a4 a5 a6 a7 a8 f0 f1 f2 f3 f4 f5 f6 f7 f8;exact qc6 (gR:=gR) (v0:=.slice (some ⟨g0,0,none⟩) b b) (v1:=.slice (some ⟨gs,0,none⟩) n n) (v2:=(.slice none 0 0)) (m:=⟨l,ss.1,yB⟩) _ rfl (by simp) bI.out HD3.out
end Go.Proofs.YtdpbdkacngaemaaGreatDoor.mt.pg
namespace Go.Proofs.YtdpbdkacngaemaaGreatDoor.mt.pg
open _root_.Go.Proofs.Tryz Go Go.RowKit ib wi mt
def qrq (r:List UInt8)(w:World)(e:Ending)(w':World):Prop:=e=.returned (.string (str r))∧Below w.heap.size w w'
def qzF (L:List UInt8)(l:List Int)(w:World)(v x i:Value)(wr:World):Prop :=
 ∃k:Nat,k≤l.length∧i=.int .i64 (k:Int)∧v=.string (str (L++zv (l.take k)))∧Below w.heap.size w wr
theorem qfy(l:List Int)(k:Nat)(h:k<l.length):zv (l.take (k+1))=zv (l.take k)++xJ l[k]:=by
 unfold zv;rw[List.take_succ_eq_append_getElem h,List.flatMap_append];simp
theorem qA (n:Nat):(zx n).length≤9:=by
 unfold zx;have:=jM n;simp only[List.length_cons];omega
theorem jD:∀l:List Int,(zv l).length≤9*l.length
 | []=>by simp[zv]
 | z::l=>by
  have h1:=qA z.toNat;have h2:=jD l;simp only[zv,List.flatMap_cons,List.length_append,List.length_cons,xJ]at h2 ⊢;omega
theorem ui (L:List UInt8)(A:Option Addr)(c:Nat)(l:List Int)(w:World)(hl:qL w A l)(h0:∀z∈l,0≤z)(hs:L.length≤100000)(h1:l.length≤1000) :
    Calls prog 245 #[.string (str L),.slice A l.length c] w (qrq (L++zv l) w):=by
 have HL:=QH hl;have HN:=QH h0;have HS:=QH hs;have HI0:Hid (str L=str (L++zv (l.take 0))):=by unfold Hid;simp[zv]
 clear hl h0 hs;obtain⟨P0,hP0⟩:=QE (str L);rw[hP0]at HI0 ⊢;clear hP0;go_enter func245,ntmps245;go_wp2_with fail;go_loopw [0,6,9] (fun v x i wr=>qzF L l w v x i wr) (fun _ _ i _=>l.length-(intOf i).toNat);case atStart=>exact⟨0,Nat.zero_le _,rfl,by rw[HI0.out],Below.refl _ _⟩
 case round =>
  obtain⟨k,hk,rfl,rfl,hb⟩:=hrel;have HB:=QH hb;clear hb;by_cases hlt:k<l.length
  ·have yr:(k:Int)<(l.length:Int):=by omega
   obtain⟨b,o,rfl,hbl,hc,hz⟩:=HL.out k hlt;have hz0:=HN.out l[k] (List.getElem_mem hlt);have jC:=QH (qfy l k hlt);have gK:=QH (jD (l.take k));have e0:wr.cell? ⟨b,o+k,none⟩=some (.int .i64 l[k]):=by rw[HB.out.cell (p:=⟨b,o+k,none⟩) hbl];exact hc
   have l0:b<wr.heap.size:=Nat.lt_of_lt_of_le hbl HB.out.size;clear hc hbl;obtain⟨u,hu⟩:∃u:Nat,l[k]=(u:Int):=⟨l[k].toNat,by omega⟩;rw[hu]at e0;have zbU:(u:Int)≤9223372036854775807:=by rw[← hu];exact hz.2
   have HU:=QH hu;obtain⟨P,hP⟩:=QE (str (L++zv (l.take k)));have hPs:P.size≤140737488355000:=by
    rw[← hP,qQ,List.length_append];have:=gK.out;have:=HS.out;simp at *;omega
   have HP:=QH hP;have rO:=QH hPs;rw[hP];clear hP hPs hu hz hz0;go_wp2_with fail;refine(kh P u wr (by omega) rO.out).mono ?_;rintro e w' ⟨rfl,hb'⟩;have HB':=QH (qa HB.out hb');clear hb';go_wp2_with fail;go_roundw;case rel =>
    refine⟨k+1,by omega,by go_num,?_,HB'.out⟩;rw[jC.out,HU.out,← HP.out,zC,List.append_assoc];rfl
   case measure=>simp[intOf];omega
  ·have yr:¬ (k:Int)<(l.length:Int):=by omega
   obtain rfl:k=l.length:=by omega
   rw[List.take_length];go_wp2_with fail;go_ret;exact⟨rfl,HB.out⟩
def qmM (w:World)(a:Option Addr)(l:List Nat):Prop :=
 ∀i (h:i<l.length),∃b o,a=some ⟨b,o,none⟩∧b<w.heap.size∧w.cell? ⟨b,o+i,none⟩=some (.int .u64 (l[i]:Int))∧l[i]<18446744073709551616
def wj (l:List Nat):List UInt8:=l.flatMap zx
theorem qfz(l:List Nat)(k:Nat)(h:k<l.length):wj (l.take (k+1))=wj (l.take k)++zx l[k]:=by
 unfold wj;rw[List.take_succ_eq_append_getElem h,List.flatMap_append];simp
theorem tI:∀l:List Nat,(wj l).length≤9*l.length
 | []=>by simp[wj]
 | z::l=>by
  have h1:=qA z;have h2:=tI l;simp only[wj,List.flatMap_cons,List.length_append,List.length_cons]at h2 ⊢;omega
def qzI (L:List UInt8)(l:List Nat)(w:World)(v x i:Value)(wr:World):Prop :=
 ∃k:Nat,k≤l.length∧i=.int .i64 (k:Int)∧v=.string (str (L++wj (l.take k)))∧Below w.heap.size w wr
theorem qc9(L:List UInt8)(A:Option Addr)(c:Nat)(l:List Nat)(w:World)(hl:qmM w A l)(hs:L.length≤100000)(h1:l.length≤1000) :
    Calls prog 246 #[.string (str L),.slice A l.length c] w (qrq (L++wj l) w):=by
 have HL:=QH hl;have HS:=QH hs;have HI0:Hid (str L=str (L++wj (l.take 0))):=by unfold Hid;simp[wj]
 clear hl hs;obtain⟨P0,hP0⟩:=QE (str L);rw[hP0]at HI0 ⊢;clear hP0;go_enter func246,ntmps246;go_wp2_with fail;go_loopw [0,6,9] (fun v x i wr=>qzI L l w v x i wr) (fun _ _ i _=>l.length-(intOf i).toNat);case atStart=>exact⟨0,Nat.zero_le _,rfl,by rw[HI0.out],Below.refl _ _⟩
 case round =>
  obtain⟨k,hk,rfl,rfl,hb⟩:=hrel;have HB:=QH hb;clear hb;by_cases hlt:k<l.length
  ·have yr:(k:Int)<(l.length:Int):=by omega
   obtain⟨b,o,rfl,hbl,hc,hz⟩:=HL.out k hlt;have jC:=QH (qfz l k hlt);have gK:=QH (tI (l.take k));have e0:wr.cell? ⟨b,o+k,none⟩=some (.int .u64 (l[k]:Int)):=by rw[HB.out.cell (p:=⟨b,o+k,none⟩) hbl];exact hc
   have l0:b<wr.heap.size:=Nat.lt_of_lt_of_le hbl HB.out.size;clear hc hbl;obtain⟨u,hu⟩:=QE (l[k]:Nat);rw[hu]at e0 hz;have HU:=QH hu;have HZ:=QH hz;obtain⟨P,hP⟩:=QE (str (L++wj (l.take k)));have hPs:P.size≤140737488355000:=by
    rw[← hP,qQ,List.length_append];have:=gK.out;have:=HS.out;simp at *;omega
   have HP:=QH hP;have rO:=QH hPs;rw[hP];clear hP hPs hu hz;go_wp2_with fail;refine(kh P u wr HZ.out rO.out).mono ?_;rintro e w' ⟨rfl,hb'⟩;have HB':=QH (qa HB.out hb');clear hb';go_wp2_with fail;go_roundw;case rel =>
    refine⟨k+1,by omega,by go_num,?_,HB'.out⟩;rw[jC.out,HU.out,← HP.out,zC,List.append_assoc]
   case measure=>simp[intOf];omega
  ·have yr:¬ (k:Int)<(l.length:Int):=by omega
   obtain rfl:k=l.length:=by omega
   rw[List.take_length];go_wp2_with fail;go_ret;exact⟨rfl,HB.out⟩
theorem nP (b:Bool)(w:World):Calls prog 247 #[.bool b] w (fun e w'=>e=.returned (.int .i64 (if b then 1 else 0))∧w'=w):=by
 cases b
 ·go_enter func247,ntmps247;go_wp2_with fail;go_ret;exact⟨rfl,rfl⟩
 ·go_enter func247,ntmps247;go_wp2_with fail;go_ret;exact⟨rfl,rfl⟩
theorem eo (s:ByteArray)(w:World)(hs:s.size≤4611686018427387904) :
    Calls prog 244 #[.string s] w fun e w'=>e=.returned (.int .i64 (nsec s.size:Int))∧w'=w:=by
 have e1:(nsec s.size:Int)=(s.size:Int)/32+(6+(s.size:Int)%32+32-1)/32:=by unfold nsec;omega
 have E1:=QH e1;clear e1;go_enter func244,ntmps244;go_wp2;go_ret;exact⟨by rw[E1.out];rfl,rfl⟩
def qiY (l:List UInt8):List UInt8 × Int:=if 48<nsec l.length then([],3)else(l,0)
theorem qrr(l:List UInt8)(w:World)(hs:l.length≤100000):Calls prog 173 #[.string (str l)] w (fun e w'=>e=.returned (.tuple #[.string (str (qiY l).1),.int .i64 (qiY l).2])∧w'=w):=by
 have HZ:=QH (eo (str l) w (by rw[qQ];omega));rw[qQ]at HZ;have HR:Hid (qiY l=if 48<nsec l.length then([],3)else(l,0)):=rfl;obtain⟨n,hn⟩:=QE (nsec l.length);rw[hn]at HZ HR;obtain⟨S,hS⟩:=QE (str l);have HS:=QH hS;rw[hS]at HZ ⊢;clear hS hn;by_cases h:48<n
 ·have hi:(48:Int)<(n:Int):=by omega
  have jO:Hid (qiY l=([],3)):=by unfold Hid;rw[HR.out,if_pos h]
  clear h;go_enter func173,ntmps173;go_wp2_with fail;refine HZ.out.mono ?_;rintro e _ ⟨rfl,rfl⟩;go_wp2_with fail;go_ret2;exact⟨by rw[jO.out];rfl,rfl⟩
 ·have hi:¬ (48:Int)<(n:Int):=by omega
  have jO:Hid (qiY l=(l,0)):=by unfold Hid;rw[HR.out,if_neg h]
  clear h;go_enter func173,ntmps173;go_wp2_with fail;refine HZ.out.mono ?_;rintro e _ ⟨rfl,rfl⟩;go_wp2_with fail;go_ret2;exact⟨by rw[jO.out,HS.out];rfl,rfl⟩
end Go.Proofs.YtdpbdkacngaemaaGreatDoor.mt.pg
namespace Go.Proofs.YtdpbdkacngaemaaGreatDoor.mt.pg
open _root_.Go.Proofs.Tryz Go Go.RowKit ib wi im mt
theorem tJ {xs ys:List Sp}{k:Nat}(hx:k<xs.length)(hy:k<ys.length)(h:xs.take k=ys.take k)(e:xs[k]=ys[k]):xs.take (k+1)=ys.take (k+1):=by
 rw[List.take_succ_eq_append_getElem hx,List.take_succ_eq_append_getElem hy,h,e]
theorem nQ (t:Tk)(A:Option Addr)(c:Nat)(w:World)(h:jv w A t.qu c)(hl:t.qu.length≤1000):Calls prog 213 #[.agg (dn t A c)] w (uE (decide (t=yB)) w):=by
 have hb:=(Below.refl w.heap.size w).alloc (Nat.le_refl _) (.cells (dn t A c) 82);have ha:=qd.new w 82 (dn t A c);obtain⟨W,hW⟩:=QE (w.alloc (.cells (dn t A c) 82));rw[hW]at hb ha;have HT:=QH (si t yB A none c 0 W (h.below hb) (jv.none _) hl);have HB:=QH hb;have a0:=ha.cell 0;have a1:=ha.cell 1;have a2:=ha.cell 2;have a3:=ha.cell 3;have a4:=ha.cell 4;have a5:=ha.cell 5;have a6:=ha.cell 6;have br:=ha.lt;simp only[dn,QA,QB,QC]at a0 a1 a2 a3 a4 a5 a6;clear hb ha h hl;unfold dn at hW ⊢;go_enter func213,ntmps213;go_upto_region 1 with fail;try rw[hW]
 clear hW;go_wp2_with fail;refine HT.out.mono ?_;rintro e W9 ⟨rfl,hb9⟩;have HB9:=QH (qa HB.out hb9);clear hb9 a0 a1 a2 a3 a4 a5 a6 br;go_wp2_with fail;go_ret;exact⟨rfl,HB9.out⟩
theorem qf0(b n:Int)(last:Gd):uz b n last yB=0:=by unfold uz;rw[if_pos (show yB.target=(0,0)from rfl),if_pos (show qa7 yB=true by decide)]
theorem qf1(last:Gd):above (0,0) last=false:=by unfold above;simp
theorem qiZ{b n:Int}{last:Gd}{t:Tk}(h:t≠yB)(hb:dC t last b=true):uz b n last t=2:=by
 unfold uz;by_cases h0:t.target=(0,0)
 ·rw[if_pos h0,if_neg];intro h1;apply h;unfold qa7 at h1;simp only[Bool.and_eq_true,decide_eq_true_eq]at h1;obtain⟨⟨⟨e1,e2⟩,e3⟩,e4⟩:=h1;cases t;simp only at e1 e2 e3 e4 h0;subst e1 e2 e3 e4 h0;rfl
 ·rw[if_neg h0,if_pos hb]
theorem qf2{b n:Int}{last:Gd}{t:Tk}(hb:dC t last b=false):uz b n last t=zM t.qu b n:=by
 unfold uz;rw[if_neg,if_neg (by rw[hb];decide)];intro h0;unfold dC at hb;rw[h0,qf1]at hb;simp at hb
theorem nR (t:Tk)(A:Option Addr)(c:Nat)(last:Gd)(b n:Int)(w:World)(h:jv w A t.qu c)(hl:t.qu.length≤1000)(hb:qG b)(hn:qG n) :
    Calls prog 128 #[.agg (dn t A c),gv last,.int .i64 b,.int .i64 n] w (bT (uz b n last t) w):=by
 have HN:=QH (And.intro hb hn);have HL:=QH hl;have hb1:=(Below.refl w.heap.size w).alloc (Nat.le_refl _) (.cells (dn t A c) 82);have ha1:=qd.new w 82 (dn t A c);obtain⟨W1,hW1⟩:=QE (w.alloc (.cells (dn t A c) 82));rw[hW1]at hb1 ha1;have hb2:=(Below.refl W1.heap.size W1).alloc (Nat.le_refl _) (.cells #[.int .u64 (last.1:Int),.int .u64 (last.2:Int)] 38);have ha2:=qd.new W1 38 #[.int .u64 (last.1:Int),.int .u64 (last.2:Int)];obtain⟨W2,hW2⟩:=QE (W1.alloc (.cells #[.int .u64 (last.1:Int),.int .u64 (last.2:Int)] 38));rw[hW2]at hb2 ha2;have HB:=QH (qa hb1 hb2);have HA:=QH (ha1.below hb2);have HG:=QH ha2;have HI:=QH (h.below HB.out);have HT:=QH (nQ t A c W2 HI.out hl);have a0:=HA.out.cell 0;have a1:=HA.out.cell 1;have a2:=HA.out.cell 2;have a3:=HA.out.cell 3;have a4:=HA.out.cell 4;have a5:=HA.out.cell 5;have a6:=HA.out.cell 6;have br:=HA.out.lt;simp only[dn,QA,QB,QC]at a0 a1 a2 a3 a4 a5 a6;clear hb1 ha1 hb2 ha2 h hl hb hn;obtain⟨res,hres⟩:=QE (uz b n last t);rw[hres];have xu:=QH hres;clear hres;unfold dn at hW1 ⊢;unfold gv;go_enter func128,ntmps128;go_upto_region 1 with fail;try rw[hW2]
 clear hW1 hW2;obtain⟨gg,hgg⟩:=QE W1.heap.size;rw[hgg]at HG;try rw[hgg]
 clear hgg;go_wp2_with fail;refine HT.out.mono ?_;rintro e W3 ⟨rfl,hb3⟩;have zB:=QH (qa HB.out hb3);have hA:=HA.out.below hb3;have hG:=HG.out.below hb3;have HI3:=QH (HI.out.below hb3);have lD:=QH hA;have HG3:=QH hG;have a0:=hA.cell 0;have a1:=hA.cell 1;have a2:=hA.cell 2;have a3:=hA.cell 3;have a4:=hA.cell 4;have a5:=hA.cell 5;have a6:=hA.cell 6;have g0:=hG.cell 0;have g1:=hG.cell 1;have br:=hA.lt;have hlg:=hG.lt;simp only[dn,QA,QB,QC]at a0 a1 a2 a3 a4 a5 a6 g0 g1;clear hb3 hA hG HA HG HI;by_cases h0:t=yB
 case' pos =>
  rw[decide_eq_true h0];have HR:Hid (res=0):=by unfold Hid;rw[← xu.out,h0,qf0]
  clear h0;go_wp2_with fail;go_ret;exact⟨by rw[HR.out];rfl,zB.out⟩
 rw[decide_eq_false h0];have jZ:Hid (dC t last b=true→res=2):=fun hq=>by rw[← xu.out];exact qiZ h0 hq
 have q5e:Hid (dC t last b=false→res=zM t.qu b n):=fun hq=>by rw[← xu.out];exact qf2 hq
 have yI:Hid (dC t last b=(!decide (t.base=last) || !above t.target last || decide (t.next<1) || decide (t.all≤t.next) || decide (b<t.all))):=rfl;clear h0 xu;by_cases h1:t.base=last
 case' neg =>
  have HR:Hid (res=2):=jZ.out (by rw[yI.out,decide_eq_false h1];simp);have hgn:=lH h1;clear h1;rcases hgn with hgn|⟨hgn,qzw⟩
  ·go_wp2_with fail;go_ret;exact⟨by rw[HR.out];rfl,zB.out⟩
  ·go_wp2_with fail;go_ret;exact⟨by rw[HR.out];rfl,zB.out⟩
 rw[h1]at a0 a1;have H1:=QH h1;have HAB:=QH (kr t.target last W3);clear h1;unfold gv at HAB;go_wp2_with fail;refine HAB.out.mono ?_;rintro e W4 ⟨rfl,hb4⟩;have zT:=QH (qa zB.out hb4);have hA:=lD.out.below hb4;have HI4:=QH (HI3.out.below hb4);have a4:=hA.cell 4;have a5:=hA.cell 5;have a6:=hA.cell 6;have br:=hA.lt;simp only[dn,QA,QB,QC]at a4 a5 a6;clear hb4 hA a0 a1 a2 a3 g0 g1 hlg lD HG3 HI3;obtain⟨q,hq⟩:=QE (above t.target last);rw[hq];cases q with
 | false =>
  have HR:Hid (res=2):=jZ.out (by rw[yI.out,hq];simp);clear hq;go_wp2_with fail;go_ret;exact⟨by rw[HR.out];rfl,zT.out⟩
 | true =>
  have HQ:=QH hq;clear hq;by_cases h2:t.next<1
  ·have HR:Hid (res=2):=jZ.out (by rw[yI.out,decide_eq_true h2];simp);go_wp2_with fail;go_ret;exact⟨by rw[HR.out];rfl,zT.out⟩
  by_cases h3:t.all≤t.next
  ·have HR:Hid (res=2):=jZ.out (by rw[yI.out,decide_eq_true h3];simp);go_wp2_with fail;go_ret;exact⟨by rw[HR.out];rfl,zT.out⟩
  by_cases h4:b<t.all
  ·have HR:Hid (res=2):=jZ.out (by rw[yI.out,decide_eq_true h4];simp);go_wp2_with fail;go_ret;exact⟨by rw[HR.out];rfl,zT.out⟩
  have HR:Hid (res=zM t.qu b n):=q5e.out (by rw[yI.out,HQ.out,decide_eq_true H1.out,decide_eq_false h2,decide_eq_false h3,decide_eq_false h4];rfl);go_wp2_with fail;refine(bU A c t.qu b n W4 HI4.out HL.out HN.out.1 HN.out.2).mono ?_;rintro e W5 ⟨rfl,hb5⟩;have jJ:=QH (qa zT.out hb5);rw[← HR.out];clear hb5 a4 a5 a6 br h2 h3 h4;go_wp2_with fail;go_ret;exact⟨rfl,jJ.out⟩
end Go.Proofs.YtdpbdkacngaemaaGreatDoor.mt.pg
namespace Go.Proofs.YtdpbdkacngaemaaGreatDoor.mt
open _root_.Go.Proofs.Tryz Go Go.RowKit Go.Sort ib
end Go.Proofs.YtdpbdkacngaemaaGreatDoor.mt
namespace Go.Proofs.YtdpbdkacngaemaaGreatDoor.im
open _root_.Go.Proofs.Tryz Go Go.RowKit ib
theorem qzJ{w wr:World}(h:Below w.heap.size w wr)(n:Nat):Below w.heap.size w (wr.drewN n):=⟨h.os,h.tape,h.output,h.size,h.block⟩
end Go.Proofs.YtdpbdkacngaemaaGreatDoor.im
namespace Go.Proofs.YtdpbdkacngaemaaGreatDoor.mt
open _root_.Go.Proofs.Tryz Go Go.RowKit ib wi im
theorem qcB{m:Mt}{b n:Int}(h1:zM m.live b n=0)(h2:20<m.qc.length):xx m b n=3:=by
 unfold xx;rw[if_neg (show ¬ zM m.live b n≠0 by rw[h1];simp),if_pos h2]
theorem qja{m:Mt}{b n:Int}(h1:zM m.live b n=0)(h2:¬ 20<m.qc.length):xx m b n=if (yc b n (0,0) m.qc).1≠0 then(yc b n (0,0) m.qc).1 else uz b n (yc b n (0,0) m.qc).2 m.tok:=by
 unfold xx;rw[if_neg (show ¬ zM m.live b n≠0 by rw[h1];simp),if_neg h2]
theorem qjb{b n:Int}{last:Gd}{x:Sp}{r:List Sp}(h:above x.g last=false):yc b n last (x::r)=(2,last):=by
 conv=>lhs;unfold yc
 rw[h];rfl
theorem qjc{b n:Int}{last:Gd}{x:Sp}{r:List Sp}(h:above x.g last=true)(h0:zM x.qu b n≠0):yc b n last (x::r)=(zM x.qu b n,x.g):=by
 conv=>lhs;unfold yc
 rw[if_pos h,if_neg h0]
theorem qf3{b n:Int}{last:Gd}{x:Sp}{r:List Sp}(h:above x.g last=true)(h0:zM x.qu b n=0):yc b n last (x::r)=yc b n x.g r:=by
 conv=>lhs;unfold yc
 rw[if_pos h,if_pos h0]
end Go.Proofs.YtdpbdkacngaemaaGreatDoor.mt
namespace Go.Proofs.YtdpbdkacngaemaaGreatDoor.mt.pg
open _root_.Go.Proofs.Tryz Go Go.RowKit ib wi im mt
def q5f (gl:Nat)(b n:Int)(xs:List Sp)(w:World)(i:Value)(wr:World):Prop :=
 ∃(k:Nat) (last:Gd),k≤xs.length∧i=.int .i64 (k:Int)∧qd wr gl 38 #[.int .u64 (last.1:Int),.int .u64 (last.2:Int)]∧yc b n (0,0) xs=yc b n last (xs.drop k)∧qB (fun j=>j=gl) w wr
theorem aU (v:Value)(m:Mt)(b n:Int)(w:World)(h:rW w v m)(hs:mtS m)(hbB:qG b)(hnB:qG n):Calls prog 53 #[v,.int .i64 b,.int .i64 n] w (bT (xx m b n) w):=by
 obtain⟨A0,A1,A2,c0',c1',c2',rfl,hm⟩:=h;have HM:=QH hm;have tK:=QH hs;have HNB:=QH (And.intro hbB hnB);clear hm hs hbB hnB;have hb0:=(Below.refl w.heap.size w).alloc (Nat.le_refl _) (.cells (zJ A0 A1 A2 c0' c1' c2' m) 103);have jw:=QH hb0;have HM0:=QH (HM.out.below hb0);have mo:=QH (qd.new w 103 (zJ A0 A1 A2 c0' c1' c2' m));obtain⟨w0,hw0⟩:=QE (w.alloc (.cells (zJ A0 A1 A2 c0' c1' c2' m) 103));rw[hw0]at jw HM0 mo;clear hb0;have c0:=mo.out.cell 0;unfold zJ at c0 hw0 ⊢;simp only[QA,QB,QC]at c0;have hlt:=mo.out.lt;obtain⟨res,hres⟩:=QE (xx m b n);rw[hres];have xu:=QH hres;clear hres;go_enter func53,ntmps53;go_wp2_with fail;try rw[hw0]
 clear hw0 c0 hlt;refine(bU A0 c0' m.live b n w0 HM0.out.live tK.out.live HNB.out.1 HNB.out.2).mono ?_;rintro e W1 ⟨rfl,hb1⟩;have qT:=QH (qa jw.out hb1);have HM1:=QH (HM0.out.below hb1);have fY:=QH (mo.out.below hb1);clear hb1 mo HM0 jw;obtain⟨er,her⟩:=QE (zM m.live b n);rw[her];have HER:=QH her;clear her;by_cases he:er=0
 case' neg =>
  have hne:(er != 0)=true:=by simpa using he
  have hr:res=er:=by rw[← xu.out];unfold xx;rw[HER.out,if_pos he]
  have HR:=QH hr;clear hr he;go_wp2_with fail;go_ret;exact⟨by rw[HR.out];rfl,qT.out⟩
 case' pos =>
  subst he
 have c1:=fY.out.cell 1;simp only[zJ,QA,QB,QC]at c1;have hlt:=fY.out.lt;by_cases hl:20<m.qc.length
 case' pos =>
  have dc:(20:Int)<(m.qc.length:Int):=by omega
  have hr:res=3:=by rw[← xu.out];exact qcB HER.out hl
  have HR:=QH hr;clear hr hl;go_wp2_with fail;go_ret;exact⟨by rw[HR.out];rfl,qT.out⟩
 have dc:¬ (20:Int)<(m.qc.length:Int):=by omega
 have hres:(if (yc b n (0,0) m.qc).1≠0 then(yc b n (0,0) m.qc).1 else uz b n (yc b n (0,0) m.qc).2 m.tok)=res:=by
  rw[← xu.out];exact(qja HER.out hl).symm
 have tB:=QH hres;have q5g:Hid (m.qc.length≤20):=by unfold Hid;omega
 clear hres hl xu HER;have hb2:=(Below.refl _ W1).alloc (Nat.le_refl _) (.cells #[.int .u64 0,.int .u64 0] 38);have qC:=QH (qa qT.out hb2);have bI:=QH (HM1.out.below hb2);have wh:=QH (fY.out.below hb2);have ie:=QH (qd.new W1 38 #[.int .u64 0,.int .u64 0]);have HGL:Hid (w.heap.size<W1.heap.size):=fY.out.lt;clear hb2;obtain⟨gl,jX⟩:=QE W1.heap.size;obtain⟨W2,hW2⟩:=QE (W1.alloc (.cells #[.int .u64 0,.int .u64 0] 38));rw[hW2]at qC bI wh ie;have d1:=wh.out.cell 1;simp only[zJ,QA,QB,QC]at d1;have hlt2:=wh.out.lt;go_upto_region 7 with fail;try rw[hW2]
 clear hW2 c1 hlt;go_wp2_with fail;rw[jX]at HGL ie;try rw[jX]
 clear d1 hlt2 fY HM1 qT;clear jX;obtain⟨len,hlen⟩:=QE m.qc.length;have HLEN:=QH hlen;rw[hlen]at q5g ⊢;clear hlen;go_loopw [10,11,27] (fun _ _ i wr=>q5f gl b n m.qc W2 i wr) (fun _ _ i _=>m.qc.length-(intOf i).toNat);case atStart=>exact⟨0,(0,0),Nat.zero_le _,rfl,ie.out,rfl,qB.refl _ _⟩
 case round =>
  obtain⟨k,last,hk,rfl,hbl,hsn,uK⟩:=hrel;have HLA:=QH hbl;have jC:=QH hsn;have HBT:=QH uK;have yy:Hid (Below w.heap.size w wr):=qC.out.trans (uK.below (fun j hj=>by rw[hj];exact Nat.le_of_lt HGL.out) qC.out.size);have HMW:=QH (HM.out.below yy.out);have HAW:=QH (wh.out.of_block (uK.block _ wh.out.lt (fun e=>by have:=HGL.out;omega)));rw[HLEN.out]at hk;clear hbl hsn uK;by_cases hlt:k<len
  ·have yr:(k:Int)<(len:Int):=by omega
   have hkm:k<m.qc.length:=by rw[HLEN.out];exact hlt
   obtain⟨bb,bo,B,cb,hA1,hlb,e0,e1,e2,e3,dx,hgd⟩:=HMW.out.qc k hkm;obtain⟨x,hx⟩:=QE (m.qc[k]);rw[hx]at e0 e1 e2 e3 dx hgd;have HDR:Hid (m.qc.drop k=x::m.qc.drop (k+1)):=by rw[← hx];exact List.drop_eq_getElem_cons hkm
   have HXS:Hid (x.qu.length≤1000):=by rw[← hx];exact tK.out.dG _ (List.getElem_mem hkm)
   subst hA1;have ig:=QH dx;clear dx hgd hx HMW;obtain⟨W3,hW3⟩:=QE (wr.alloc (.cells (snC x B cb) 141));have hb3:Below wr.heap.size wr W3:=by rw[← hW3];exact(Below.refl _ wr).alloc (Nat.le_refl _) _
   have hS:qd W3 wr.heap.size 141 (snC x B cb):=by rw[← hW3];exact qd.new _ _ _
   have zB:=QH hb3;have mO:=QH hS;have HL3:=QH (HLA.out.below hb3);have x0:=hS.cell 0;have x1:=hS.cell 1;have hlx:=hS.lt;have l0:=HL3.out.cell 0;have l1:=HL3.out.cell 1;have rQ:=HL3.out.lt;simp only[snC,QA,QB,QC]at x0 x1 l0 l1;unfold snC at hW3;clear hS hb3;have HAB:=QH (kr x.g last W3);unfold gv at HAB;go_upto_region 10 with fail;try rw[hW3]
   clear hW3 e0 e1 e2 e3;obtain⟨gs,hgs⟩:=QE wr.heap.size;have HGS:=QH hgs;rw[hgs]at x0 x1 hlx mO;try rw[hgs]
   clear hgs;go_wp2_with fail;refine HAB.out.mono ?_;rintro e W4 ⟨rfl,hb4⟩;have zT:=QH (qa zB.out hb4);have mQ:=QH (mO.out.below hb4);have HL4:=QH (HL3.out.below hb4);have hS:=mQ.out;have x1':=hS.cell 2;have hlx:=hS.lt;simp only[snC,QA,QB,QC]at x1';clear hb4 x0 x1 l0 l1 rQ hS mO HL3;obtain⟨q,hq⟩:=QE (above x.g last);rw[hq];cases q with
   | false =>
    have HR:Hid (res=2):=by
     unfold Hid;rw[← tB.out,jC.out,HDR.out,qjb hq];rfl
    clear hq;go_wp2_with fail;go_ret;exact⟨by rw[HR.out];rfl,qa yy.out zT.out⟩
   | true =>
    have HQ:=QH hq;clear hq;go_wp2_with fail;refine(bU B cb x.qu b n W4 (ig.out.below zT.out) HXS.out HNB.out.1 HNB.out.2).mono ?_;rintro e W5 ⟨rfl,hb5⟩;have jJ:=QH (qa zT.out hb5);have mA:=QH (mQ.out.below hb5);have HL5:=QH (HL4.out.below hb5);clear hb5 x1' hlx mQ HL4;obtain⟨ei,hei⟩:=QE (zM x.qu b n);rw[hei];by_cases he:ei=0
    ·subst he;have HN:Hid (yc b n (0,0) m.qc=yc b n x.g (m.qc.drop (k+1))):=by
      unfold Hid;rw[jC.out,HDR.out,qf3 HQ.out hei]
     have x0:=mA.out.cell 0;have x1:=mA.out.cell 1;have hlx:=mA.out.lt;have rQ:=HL5.out.lt;have l0:=HL5.out.cell 0;have l1:=HL5.out.cell 1;have f0:=HL5.out.frozen 0;have f1:=HL5.out.frozen 1;simp only[snC,QA,QB,QC]at x0 x1 l0 l1;clear hei;go_wp2_with fail;have HL6:=QH ((HL5.out.qo 0 (.int .u64 (x.g.1:Int))).qo 1 (.int .u64 (x.g.2:Int)));go_roundw;case rel =>
      refine⟨k+1,x.g,by rw[HLEN.out];omega,by go_num,HL6.out,HN.out,?_⟩;have hbt:qB (fun j=>j=gl) W2 W5:=HBT.out.trans (qB.of_below jJ.out) (fun i hi=>.inl hi);exact(hbt.setCell _ _ (.inl rfl)).setCell _ _ (.inl rfl)
     case measure=>simp[intOf];have:=HLEN.out;omega
    ·have hne:(ei != 0)=true:=by simpa using he
     have HR:Hid (res=ei):=by
      unfold Hid;rw[← tB.out,jC.out,HDR.out,qjc HQ.out (by rw[hei];exact he),hei];simp[he]
     clear hei he;go_wp2_with fail;go_ret;exact⟨by rw[HR.out];rfl,qa yy.out jJ.out⟩
  ·have yr:¬ (k:Int)<(len:Int):=by omega
   have hsn:yc b n (0,0) m.qc=(0,last):=by
    rw[jC.out,List.drop_eq_nil_of_le (by have:=HLEN.out;omega)];rfl
   have HR:Hid (uz b n last m.tok=res):=by
    unfold Hid;rw[← tB.out,hsn];simp
   have HT:=QH (nR m.tok A2 c2' last b n wr (HM.out.qu.below yy.out) tK.out.qu HNB.out.1 HNB.out.2);rw[HR.out]at HT;unfold gv dn at HT;have c2:=HAW.out.cell 2;have c3:=HAW.out.cell 3;have c4:=HAW.out.cell 4;have c5:=HAW.out.cell 5;have c6:=HAW.out.cell 6;have c7:=HAW.out.cell 7;have c8:=HAW.out.cell 8;have l0:=HLA.out.cell 0;have l1:=HLA.out.cell 1;have br:=HAW.out.lt;have rQ:=HLA.out.lt;simp only[zJ,QA,QB,QC]at c2 c3 c4 c5 c6 c7 c8 l0 l1;clear hsn jC;go_wp2_with fail;refine HT.out.mono ?_;rintro e W4 ⟨rfl,hb4⟩;have zT:=QH (qa yy.out hb4);clear hb4 c2 c3 c4 c5 c6 c7 c8 l0 l1;go_wp2_with fail;go_ret;exact⟨rfl,zT.out⟩
theorem qmR(L:List UInt8)(z:Int)(W:World)(h0:0≤z)(h1:z≤9223372036854775807)(hs:L.length≤100000) :
    Calls prog 245 #[.string (str L),.slice (some ⟨W.heap.size,0,none⟩) 1 1] (W.alloc (.cells #[.int .i64 z] 3)) (fun e w'=>e=.returned (.string (str (L++xJ z)))∧Below W.heap.size W w'):=by
 have h:=ui L (some ⟨W.heap.size,0,none⟩) 1 [z] (W.alloc (.cells #[.int .i64 z] 3)) (dF W [z] (by intro x hx;simp only[List.mem_cons,List.not_mem_nil,or_false]at hx;subst hx;unfold qG;omega)) (by intro x hx;simp only[List.mem_cons,List.not_mem_nil,or_false]at hx;subst hx;exact h0) hs (by simp);refine h.mono ?_;rintro e w' ⟨rfl,hb⟩;exact⟨by simp[zv],qa ((Below.refl _ W).alloc (Nat.le_refl _) _) hb⟩
theorem q5i(L:List UInt8)(z y:Int)(W:World)(h0:0≤z)(h1:z≤9223372036854775807)(h2:0≤y)(h3:y≤9223372036854775807)(hs:L.length≤100000) :
    Calls prog 245 #[.string (str L),.slice (some ⟨W.heap.size,0,none⟩) 2 2] (W.alloc (.cells #[.int .i64 z,.int .i64 y] 3)) (fun e w'=>e=.returned (.string (str (L++(xJ z++xJ y))))∧Below W.heap.size W w'):=by
 have h:=ui L (some ⟨W.heap.size,0,none⟩) 2 [z,y] (W.alloc (.cells #[.int .i64 z,.int .i64 y] 3)) (dF W [z,y] (by intro x hx;simp only[List.mem_cons,List.not_mem_nil,or_false]at hx;unfold qG;rcases hx with rfl|rfl <;> omega)) (by intro x hx;simp only[List.mem_cons,List.not_mem_nil,or_false]at hx;rcases hx with rfl|rfl <;> assumption) hs (by simp);refine h.mono ?_;rintro e w' ⟨rfl,hb⟩;exact⟨by simp[zv],qa ((Below.refl _ W).alloc (Nat.le_refl _) _) hb⟩
theorem qcC(W:World)(l:List Nat)(h:∀z∈l,z<18446744073709551616)(t:TypeId):qmM (W.alloc (.cells (l.map fun(n:Nat)=>Value.int .u64 (n:Int)).toArray t)) (some ⟨W.heap.size,0,none⟩) l:=fun i hi =>
 ⟨W.heap.size,0,rfl,by simp,by rw[Nat.zero_add,(qd.new W t _).cell i];simp[hi],h _ (List.getElem_mem hi)⟩
theorem q5j(L:List UInt8)(g:Gd)(W:World)(hg:xF g)(hs:L.length≤100000) :
    Calls prog 246 #[.string (str L),.slice (some ⟨W.heap.size,0,none⟩) 2 2] (W.alloc (.cells #[.int .u64 (g.1:Int),.int .u64 (g.2:Int)] 36)) (fun e w'=>e=.returned (.string (str (L++jY g)))∧Below W.heap.size W w'):=by
 have h:=qc9 L (some ⟨W.heap.size,0,none⟩) 2 [g.1,g.2] (W.alloc (.cells #[.int .u64 (g.1:Int),.int .u64 (g.2:Int)] 36)) (qcC W [g.1,g.2] (by intro x hx;simp only[List.mem_cons,List.not_mem_nil,or_false]at hx;rcases hx with rfl|rfl;exact hg.1;exact hg.2) _) hs (by simp);refine h.mono ?_;rintro e w' ⟨rfl,hb⟩;exact⟨by simp[wj,jY],qa ((Below.refl _ W).alloc (Nat.le_refl _) _) hb⟩
theorem qzL(L:List UInt8)(g y:Gd)(W:World)(hg:xF g)(hy:xF y)(hs:L.length≤100000) :
    Calls prog 246 #[.string (str L),.slice (some ⟨W.heap.size,0,none⟩) 4 4] (W.alloc (.cells #[.int .u64 (g.1:Int),.int .u64 (g.2:Int),.int .u64 (y.1:Int),.int .u64 (y.2:Int)] 36)) (fun e w'=>e=.returned (.string (str (L++(jY g++jY y))))∧Below W.heap.size W w'):=by
 have h:=qc9 L (some ⟨W.heap.size,0,none⟩) 4 [g.1,g.2,y.1,y.2] (W.alloc (.cells #[.int .u64 (g.1:Int),.int .u64 (g.2:Int),.int .u64 (y.1:Int),.int .u64 (y.2:Int)] 36)) (qcC W [g.1,g.2,y.1,y.2] (by intro x hx;simp only[List.mem_cons,List.not_mem_nil,or_false]at hx;rcases hx with rfl|rfl|rfl|rfl;exact hg.1;exact hg.2;exact hy.1;exact hy.2) _) hs (by simp);refine h.mono ?_;rintro e w' ⟨rfl,hb⟩;exact⟨by simp[wj,jY],qa ((Below.refl _ W).alloc (Nat.le_refl _) _) hb⟩
def tkP (t:Tk):List UInt8:=if t=yB then zx 0 else zx 1++(jY t.base++(jY t.target++(xJ t.next++(xJ t.all++zv t.qu))))
structure TkF(t:Tk):Prop where
 base:xF t.base
 target:xF t.target
 next:0≤t.next∧t.next≤9223372036854775807
 all:0≤t.all∧t.all≤9223372036854775807
 qu:∀z∈t.qu,0≤z
 few:t.qu.length≤100
theorem qaR(L:List UInt8)(t:Tk)(A:Option Addr)(c:Nat)(w:World)(h:jv w A t.qu c)(ht:TkF t)(hs:L.length≤50000):Calls prog 248 #[.string (str L),.agg (dn t A c)] w (qrq (L++tkP t) w):=by
 have HT:=QH ht;have HS:=QH hs;have hb:=(Below.refl w.heap.size w).alloc (Nat.le_refl _) (.cells (dn t A c) 82);have ha:=qd.new w 82 (dn t A c);obtain⟨W,hW⟩:=QE (w.alloc (.cells (dn t A c) 82));rw[hW]at hb ha;have HI:=QH (h.below hb);have HN:=QH (nQ t A c W HI.out (by have:=ht.few;omega));have HB:=QH hb;have HA:=QH ha;have a0:=ha.cell 0;have a1:=ha.cell 1;have a2:=ha.cell 2;have a3:=ha.cell 3;have a4:=ha.cell 4;have a5:=ha.cell 5;have a6:=ha.cell 6;have br:=ha.lt;simp only[dn,QA,QB,QC]at a0 a1 a2 a3 a4 a5 a6;clear hb ha h hs ht;unfold dn at hW HN ⊢;go_enter func248,ntmps248;go_upto_region 1 with fail;try rw[hW]
 clear hW;go_wp2_with fail;refine HN.out.mono ?_;rintro e W1 ⟨rfl,hb1⟩;have qT:=QH (qa HB.out hb1);have fY:=QH (HA.out.below hb1);have HI1:=QH (HI.out.below hb1);clear hb1 a0 a1 a2 a3 a4 a5 a6 br HN HA HI HB;by_cases h0:t=yB
 ·have HR:Hid (tkP t=xJ 0):=by unfold Hid tkP;rw[if_pos h0];rfl
  rw[decide_eq_true h0];clear h0;go_wp2_with fail;refine(nP false W1).mono ?_;rintro e _ ⟨rfl,rfl⟩;dsimp only;go_wp2_with fail;refine(qmR L 0 _ (by omega) (by omega) (by have:=HS.out;omega)).mono ?_;rintro e W2 ⟨rfl,hb2⟩;have qC:=QH (qa qT.out hb2);rw[← HR.out];clear hb2;go_wp2_with fail;go_ret;exact⟨rfl,qC.out⟩
 ·have HR:Hid (tkP t=xJ 1++(jY t.base++(jY t.target++(xJ t.next++(xJ t.all++zv t.qu))))):=by unfold Hid tkP;rw[if_neg h0];rfl
  rw[decide_eq_false h0];clear h0;go_wp2_with fail;refine(nP true W1).mono ?_;rintro e _ ⟨rfl,rfl⟩;dsimp only;go_wp2_with fail;refine(qmR L 1 _ (by omega) (by omega) (by have:=HS.out;omega)).mono ?_;rintro e W2 ⟨rfl,hb2⟩;have qC:=QH (qa qT.out hb2);have ha:=fY.out.below hb2;have wh:=QH ha;have HI2:=QH (HI1.out.below hb2);obtain⟨L1,hL1⟩:=QE (L++xJ 1);have HL1:=QH hL1;have dO:Hid (L1.length≤50009):=by
   unfold Hid;rw[← hL1,List.length_append];have:=HS.out;have:=qA (1:Int).toNat;unfold xJ;omega
  rw[hL1];have a0:=ha.cell 0;have a1:=ha.cell 1;have a2:=ha.cell 2;have a3:=ha.cell 3;have br:=ha.lt;simp only[dn,QA,QB,QC]at a0 a1 a2 a3;clear hb2 ha hL1;go_wp2_with fail;refine(qzL L1 t.base t.target _ HT.out.base HT.out.target (by have:=dO.out;omega)).mono ?_;rintro e W3 ⟨rfl,hb3⟩;have zB:=QH (qa qC.out hb3);have ha:=wh.out.below hb3;have lD:=QH ha;have HI3:=QH (HI2.out.below hb3);obtain⟨L2,hL2⟩:=QE (L1++(jY t.base++jY t.target));have ie:=QH hL2;have kT:Hid (L2.length≤50100):=by
   unfold Hid;rw[← hL2];have:=dO.out;have:=qA t.base.1;have:=qA t.base.2;have:=qA t.target.1;have:=qA t.target.2;unfold jY;simp only[List.length_append];omega
  rw[hL2];have a4:=ha.cell 4;have a5:=ha.cell 5;have br:=ha.lt;simp only[dn,QA,QB,QC]at a4 a5;clear hb3 ha hL2 a0 a1 a2 a3;go_wp2_with fail;refine(q5i L2 t.next t.all _ HT.out.next.1 HT.out.next.2 HT.out.all.1 HT.out.all.2 (by have:=kT.out;omega)).mono ?_;rintro e W4 ⟨rfl,hb4⟩;have zT:=QH (qa zB.out hb4);have ha:=lD.out.below hb4;have HI4:=QH (HI3.out.below hb4);obtain⟨L3,hL3⟩:=QE (L2++(xJ t.next++xJ t.all));have HL3:=QH hL3;have mO:Hid (L3.length≤50200):=by
   unfold Hid;rw[← hL3];have:=kT.out;have:=qA t.next.toNat;have:=qA t.all.toNat;unfold xJ;simp only[List.length_append];omega
  rw[hL3];have a6:=ha.cell 6;have br:=ha.lt;simp only[dn,QA,QB,QC]at a6;clear hb4 ha hL3 a4 a5;go_wp2_with fail;refine(ui L3 A c t.qu W4 HI4.out.ints HT.out.qu (by have:=mO.out;omega) (by have:=HT.out.few;omega)).mono ?_;rintro e W5 ⟨rfl,hb5⟩;have jJ:=QH (qa zT.out hb5);have HE:Hid (L3++zv t.qu=L++tkP t):=by
   unfold Hid;rw[HR.out,← HL3.out,← ie.out,← HL1.out];simp only[List.append_assoc]
  rw[HE.out];clear hb5 a6 br;go_wp2_with fail;go_ret;exact⟨rfl,jJ.out⟩
end Go.Proofs.YtdpbdkacngaemaaGreatDoor.mt.pg
namespace Go.Proofs.YtdpbdkacngaemaaGreatDoor.wi
open _root_.Go.Proofs.Tryz Go.RowKit
end Go.Proofs.YtdpbdkacngaemaaGreatDoor.wi
namespace Go.Proofs.YtdpbdkacngaemaaGreatDoor.mt
open _root_.Go.Proofs.Tryz Go Go.RowKit ib wi
theorem qmS(z:Int):(xJ z).length≤9:=by
 unfold xJ zx;have:=jM z.toNat;simp only[List.length_cons];omega
theorem jD:∀l:List Int,(zv l).length≤9*l.length
 | []=>by simp[zv]
 | z::l=>by
  have h1:=qmS z;have h2:=jD l;simp only[zv,List.flatMap_cons,List.length_append,List.length_cons]at h2 ⊢;omega
end Go.Proofs.YtdpbdkacngaemaaGreatDoor.mt
namespace Go.Proofs.YtdpbdkacngaemaaGreatDoor.mt
open _root_.Go.Proofs.Tryz Go Go.RowKit ib wi im
theorem qA (n:Nat):(zx n).length≤9:=by
 unfold zx;have:=jM n;simp only[List.length_cons];omega
theorem qmT(g:Gd):(jY g).length≤18:=by
 unfold jY;have:=qA g.1;have:=qA g.2;rw[List.length_append];omega
end Go.Proofs.YtdpbdkacngaemaaGreatDoor.mt
namespace Go.Proofs.YtdpbdkacngaemaaGreatDoor.mt
open _root_.Go.Proofs.Tryz Go Go.RowKit ib wi
end Go.Proofs.YtdpbdkacngaemaaGreatDoor.mt
namespace Go.Proofs.YtdpbdkacngaemaaGreatDoor
open _root_.Go.Proofs.Tryz Go Go.RowKit
section
variable {P:Program} {ops:Array Oper} {Q:Exit→Act→World→Prop} {a0:Act} {m:Nat} {ds:List Tmp} {I:(Nat→Bool)→(Nat→Value)→World→Prop}
end
end Go.Proofs.YtdpbdkacngaemaaGreatDoor
namespace Go.Proofs.YtdpbdkacngaemaaGreatDoor.mt
open _root_.Go.Proofs.Tryz Go Go.RowKit ib wi im
theorem qrs(x:Sp)(h:x.qu.length≤8):(spB x).length≤99:=by
 unfold spB;have h1:=qmT x.g;have h2:=qA (if x.hid then 1 else 0);have h3:=jD x.qu;simp only[List.length_append];omega
theorem eJ:∀(l:List Sp),(∀x∈l,x.qu.length≤8)→(ji l).length≤99*l.length
 | [],_=>by simp[ji]
 | x::l,h=>by
  have h1:=qrs x (h x (by simp));have h2:=eJ l (fun y hy=>h y (by simp[hy]));simp only[ji,List.flatMap_cons,List.length_append,List.length_cons]at h2 ⊢;omega
theorem qjd(l:List Sp)(k:Nat)(h:k<l.length):ji (l.take (k+1))=ji (l.take k)++spB l[k]:=by
 unfold ji;rw[List.take_succ_eq_append_getElem h,List.flatMap_append];simp
theorem qrt(b:Bool):zx (if b then 1 else 0)=xJ (if b then 1 else 0):=by cases b <;> rfl
end Go.Proofs.YtdpbdkacngaemaaGreatDoor.mt
namespace Go.Proofs.YtdpbdkacngaemaaGreatDoor.mt.pg
open _root_.Go.Proofs.Tryz Go Go.RowKit ib wi im mt
structure qvC(m:Mt):Prop where
 live:∀z∈m.live,0≤z
 few:m.live.length≤8
 qc:∀s∈m.qc,xF s.g∧s.qu.length≤8∧∀z∈s.qu,0≤z
 qzM:m.qc.length≤20
 tok:TkF m.tok
theorem qru{m:Mt}(hB:mB m)(h:xx m m.live.length 1024=0):qvC m∧tkP m.tok=tkB m.tok:=by
 obtain⟨h1,h2,h3,h4⟩:=dD hB h;have ht:=h1.tok;unfold cY at ht;refine⟨⟨fun z hz=>(h1.live z hz).1,h3,fun s hs=>⟨(h1.qc s hs).1,by rw[(h1.qc s hs).2.1];exact h3,fun z hz=>((h1.qc s hs).2.2 z hz).1⟩,h4,?_⟩,?_⟩
 ·by_cases h0:m.tok.target=(0,0)
  ·rw[if_pos h0]at ht;rw[ht];exact⟨bS,bS,by unfold yB;simp,by unfold yB;simp,fun z hz=>absurd hz (by simp[yB]),by simp[yB]⟩
  ·rw[if_neg h0]at ht;obtain⟨a1,a2,a3,a4,a5,a6⟩:=ht;exact⟨a1,a2,by omega,by omega,fun z hz=>(a6 z hz).1,by omega⟩
 ·unfold tkP tkB;by_cases h0:m.tok.target=(0,0)
  ·rw[if_pos h0]at ht;rw[if_pos h0,if_pos ht]
  ·rw[if_neg h0,if_neg];intro e;exact h0 (by rw[e];rfl)
def qzN (L:List UInt8)(xs:List Sp)(w:World)(v x i:Value)(wr:World):Prop :=
 ∃k:Nat,k≤xs.length∧i=.int .i64 (k:Int)∧v=.string (str (L++ji (xs.take k)))∧Below w.heap.size w wr
theorem kA (A0 A1 A2:Option Addr)(d0 d1 d2:Nat)(m:Mt)(w:World)(hm:MtL w A0 A1 A2 d0 d1 d2 m)(hf:qvC m):Calls prog 174 #[.agg (zJ A0 A1 A2 d0 d1 d2 m)] w (qrq (zx m.live.length++(zv m.live++(zx m.qc.length++(ji m.qc++tkP m.tok)))) w):=by
 have HF:=QH hf;have hb:=(Below.refl w.heap.size w).alloc (Nat.le_refl _) (.cells (zJ A0 A1 A2 d0 d1 d2 m) 103);have ha:=qd.new w 103 (zJ A0 A1 A2 d0 d1 d2 m);obtain⟨W,hW⟩:=QE (w.alloc (.cells (zJ A0 A1 A2 d0 d1 d2 m) 103));rw[hW]at hb ha;have HM:=QH (hm.below hb);have HB:=QH hb;have HA:=QH ha;have a0:=ha.cell 0;have br:=ha.lt;simp only[zJ,QA,QB,QC]at a0;clear hb ha hm hf;have HNL:Hid (m.live.length≤8):=HF.out.few;have HNS:Hid (m.qc.length≤20):=HF.out.qzM;unfold zJ at hW ⊢;go_enter func174,ntmps174;go_upto_region 1 with fail;try rw[hW]
 clear hW;go_wp2_with fail;have l0:=qmR [] (m.live.length:Int) W (by omega) (by have:=HNL.out;omega) (by simp);refine l0.mono ?_;clear l0;rintro e W1 ⟨rfl,hb1⟩;have qT:=QH (qa HB.out hb1);have ha:=HA.out.below hb1;have fY:=QH ha;have HM1:=QH (HM.out.below hb1);obtain⟨L1,hL1⟩:=QE ([]++xJ (m.live.length:Int));have HL1:Hid (L1=zx m.live.length):=by unfold Hid;rw[← hL1];simp[xJ]
 rw[hL1];have a0:=ha.cell 0;have br:=ha.lt;simp only[zJ,QA,QB,QC]at a0;clear hb1 ha hL1 HM HA HB;go_wp2_with fail;refine(ui L1 A0 d0 m.live W1 HM1.out.live.ints HF.out.live (by rw[HL1.out];have:=qA m.live.length;omega) (by have:=HNL.out;omega)).mono ?_;rintro e W2 ⟨rfl,hb2⟩;have qC:=QH (qa qT.out hb2);have ha:=fY.out.below hb2;have wh:=QH ha;have bI:=QH (HM1.out.below hb2);obtain⟨L2,hL2⟩:=QE (L1++zv m.live);have ie:Hid (L2=zx m.live.length++zv m.live):=by unfold Hid;rw[← hL2,HL1.out]
 have kT:Hid (L2.length≤81):=by
  unfold Hid;rw[ie.out,List.length_append];have:=qA m.live.length;have:=jD m.live;have:=HNL.out;omega
 rw[hL2];have a1:=ha.cell 1;have br:=ha.lt;simp only[zJ,QA,QB,QC]at a1;clear hb2 ha hL2 HM1 fY qT a0;go_wp2_with fail;refine(qmR L2 (m.qc.length:Int) W2 (by omega) (by have:=HNS.out;omega) (by have:=kT.out;omega)).mono ?_;rintro e W3 ⟨rfl,hb3⟩;have zB:=QH (qa qC.out hb3);have ha:=wh.out.below hb3;have lD:=QH ha;have HM3:=QH (bI.out.below hb3);obtain⟨L3,hL3⟩:=QE (L2++xJ (m.qc.length:Int));have HL3:Hid (L3=zx m.live.length++(zv m.live++zx m.qc.length)):=by unfold Hid;rw[← hL3,ie.out];simp[xJ]
 have mO:Hid (L3.length≤90):=by
  unfold Hid;rw[← hL3,List.length_append];have:=qA (m.qc.length:Int).toNat;have:=kT.out;unfold xJ;omega
 rw[hL3];have a1:=ha.cell 1;have br:=ha.lt;simp only[zJ,QA,QB,QC]at a1;clear hb3 ha hL3 bI wh qC;have ig:Hid ((ji m.qc).length≤1980):=by
  unfold Hid;have:=eJ m.qc (fun x hx=>(HF.out.qc x hx).2.1);have:=HNS.out;omega
 have HSK:Hid (∀k,k≤m.qc.length→(ji (m.qc.take k)).length≤1980):=fun k hk=>by
  have:=eJ (m.qc.take k) (fun x hx=>(HF.out.qc x (List.mem_of_mem_take hx)).2.1);have:=HNS.out;have h3:(m.qc.take k).length≤20:=by simp only[List.length_take];omega
  omega
 obtain⟨len,hlen⟩:=QE m.qc.length;have HLEN:=QH hlen;rw[hlen]at a1 HNS HSK;clear hlen;go_wp2_with fail;clear a1;go_loopw [3,5,24] (fun v x i wr=>qzN L3 m.qc W3 v x i wr) (fun _ _ i _=>len-(intOf i).toNat);case atStart=>exact⟨0,Nat.zero_le _,rfl,by simp[ji],Below.refl _ _⟩
 case round =>
  obtain⟨k,hk,rfl,rfl,uK⟩:=hrel;have yy:=QH uK;have HAW:=QH (lD.out.below uK);have HMW:=QH (HM3.out.below uK);rw[HLEN.out]at hk;clear uK;obtain⟨P,hP⟩:=QE (L3++ji (m.qc.take k));have HP:=QH hP;have rO:Hid (P.length≤2100):=by
   unfold Hid;rw[← hP,List.length_append];have:=mO.out;have:=HSK.out k hk;omega
  rw[hP];clear hP;by_cases hlt:k<len
  ·have yr:(k:Int)<(len:Int):=by omega
   have zbV:k≤20:=by have:=HNS.out;omega
   have hkm:k<m.qc.length:=by rw[HLEN.out];exact hlt
   obtain⟨bb,bo,B,cb,hA1,hlb,e0,e1,e2,e3,dx,hgd⟩:=HMW.out.qc k hkm;have hsf:=HF.out.qc _ (List.getElem_mem hkm);have jC:=QH (qjd m.qc k hkm);obtain⟨x,hx⟩:=QE (m.qc[k]);rw[hx]at e0 e1 e2 e3 dx hgd hsf jC;have HSF:=QH hsf;subst hA1;have HSI:=QH dx;clear dx hgd hx hsf;obtain⟨W4,ic⟩:=QE (wr.alloc (.cells (snC x B cb) 141));have hb4:Below wr.heap.size wr W4:=by rw[← ic];exact(Below.refl _ wr).alloc (Nat.le_refl _) _
   have hS:qd W4 wr.heap.size 141 (snC x B cb):=by rw[← ic];exact qd.new _ _ _
   have zT:=QH (qa yy.out hb4);have HI4:=QH (HSI.out.below hb4);have mQ:=QH hS;have x0:=hS.cell 0;have x1:=hS.cell 1;have hlx:=hS.lt;simp only[snC,QA,QB,QC]at x0 x1;unfold snC at ic;clear hS hb4 HSI;go_upto_region 7 with fail;try rw[ic]
   clear ic e0 e1 e2 e3;obtain⟨gs,hgs⟩:=QE wr.heap.size;rw[hgs]at x0 x1 hlx mQ;try rw[hgs]
   clear hgs;go_wp2_with fail;refine(q5j P x.g W4 HSF.out.1 (by have:=rO.out;omega)).mono ?_;rintro e W5 ⟨rfl,hb5⟩;have jJ:=QH (qa zT.out hb5);have HI5:=QH (HI4.out.below hb5);have hS:=mQ.out.below hb5;have mA:=QH hS;obtain⟨P1,hP1⟩:=QE (P++jY x.g);have nS:=QH hP1;have qzP:Hid (P1.length≤2200):=by
    unfold Hid;rw[← hP1,List.length_append];have:=rO.out;have:=qA x.g.1;have:=qA x.g.2;unfold jY;simp only[List.length_append];omega
   rw[hP1];have x3:=hS.cell 3;have hlx:=hS.lt;simp only[snC,QA,QB,QC]at x3;clear hb5 hS hP1 x0 x1 mQ HI4;go_wp2_with fail;refine(nP x.hid W5).mono ?_;rintro e _ ⟨rfl,rfl⟩;obtain⟨fl,gY⟩:=QE ((if x.hid=true then 1 else 0):Int);rw[gY];have HFL:=QH gY;have hfb:0≤fl∧fl≤1:=by rw[← gY];split <;> omega
   have HFB:=QH hfb;clear gY hfb;go_wp2_with fail;refine(qmR P1 fl _ HFB.out.1 (by have:=HFB.out.2;omega) (by have:=qzP.out;omega)).mono ?_;rintro e W6 ⟨rfl,dz⟩;have dQ:=QH (qa jJ.out dz);have HI6:=QH (HI5.out.below dz);have hS:=mA.out.below dz;obtain⟨P2,hP2⟩:=QE (P1++xJ fl);have ij:=QH hP2;have q5m:Hid (P2.length≤2300):=by
    unfold Hid;rw[← hP2,List.length_append];have:=qzP.out;have:=qA fl.toNat;unfold xJ;omega
   rw[hP2];have x2:=hS.cell 2;have hlx:=hS.lt;simp only[snC,QA,QB,QC]at x2;clear dz hS hP2 x3 mA HI5;go_wp2_with fail;refine(ui P2 B cb x.qu W6 HI6.out.ints HSF.out.2.2 (by have:=q5m.out;omega) (by have:=HSF.out.2.1;omega)).mono ?_;rintro e W7 ⟨rfl,hb7⟩;have HB7:=QH (qa dQ.out hb7);have HE:Hid (P2++zv x.qu=L3++ji (m.qc.take (k+1))):=by
    unfold Hid;rw[jC.out,← ij.out,← nS.out,← HP.out,← HFL.out];unfold spB;rw[qrt];simp only[List.append_assoc]
   rw[HE.out];clear hb7 x2 hlx;go_wp2_with fail;go_roundw;case rel=>exact⟨k+1,by rw[HLEN.out];omega,by go_num,rfl,HB7.out⟩
   case measure=>simp[intOf];omega
  ·have yr:¬ (k:Int)<(len:Int):=by omega
   obtain rfl:k=len:=by omega
   have HE:Hid (P=L3++ji m.qc):=by
    unfold Hid;rw[← HP.out,List.take_of_length_le (by have:=HLEN.out;omega)]
   have ha:=HAW.out;have a2:=ha.cell 2;have a3:=ha.cell 3;have a4:=ha.cell 4;have a5:=ha.cell 5;have a6:=ha.cell 6;have a7:=ha.cell 7;have a8:=ha.cell 8;have br:=ha.lt;simp only[zJ,QA,QB,QC]at a2 a3 a4 a5 a6 a7 a8;have HT:=QH (qaR P m.tok A2 d2 wr HMW.out.qu HF.out.tok (by have:=rO.out;omega));unfold dn at HT;clear ha HP;go_wp2_with fail;refine HT.out.mono ?_;rintro e W4 ⟨rfl,hb4⟩;have zT:=QH (qa (qa zB.out yy.out) hb4);have HE2:Hid (P++tkP m.tok=zx m.live.length++(zv m.live++(zx m.qc.length++(ji m.qc++tkP m.tok)))):=by
    unfold Hid;rw[HE.out,HL3.out];simp only[List.append_assoc]
   rw[HE2.out];clear hb4 a2 a3 a4 a5 a6 a7 a8 HT;go_wp2_with fail;go_ret;exact⟨rfl,zT.out⟩
theorem qhE(v:Value)(m:Mt)(w:World)(h:rW w v m)(hs:mtS m):Calls prog 100 #[v] w (qvc (gW m) w):=by
 have hmB:=h.mB;obtain⟨A0,A1,A2,d0,d1,d2,rfl,hm⟩:=h;have HMB:=QH hmB;have tK:=QH hs;have hb:=(Below.refl w.heap.size w).alloc (Nat.le_refl _) (.cells (zJ A0 A1 A2 d0 d1 d2 m) 103);have ha:=qd.new w 103 (zJ A0 A1 A2 d0 d1 d2 m);obtain⟨W,hW⟩:=QE (w.alloc (.cells (zJ A0 A1 A2 d0 d1 d2 m) 103));rw[hW]at hb ha;have HM:=QH (hm.below hb);have HB:=QH hb;have HA:=QH ha;have a0:=ha.cell 0;have a1:=ha.cell 1;have a2:=ha.cell 2;have a3:=ha.cell 3;have a4:=ha.cell 4;have a5:=ha.cell 5;have a6:=ha.cell 6;have a7:=ha.cell 7;have a8:=ha.cell 8;have br:=ha.lt;simp only[zJ,QA,QB,QC]at a0 a1 a2 a3 a4 a5 a6 a7 a8;have HC:=QH (aU (.agg (zJ A0 A1 A2 d0 d1 d2 m)) m (m.live.length:Int) 1024 W ⟨_,_,_,_,_,_,rfl,HM.out⟩ hs (by unfold qG;have:=hs.live;omega) (by unfold qG;omega));clear hb ha hm hs hmB;have qrv:Hid (gW m=if xx m m.live.length 1024≠0 then([],xx m m.live.length 1024)else if 48<nsec (zD m).length then([],3)else(zD m,0)):=rfl;have HPF:Hid (xx m m.live.length 1024=0→qvC m∧tkP m.tok=tkB m.tok):=fun hq=>qru HMB.out hq;obtain⟨er,her⟩:=QE (xx m m.live.length 1024);rw[her]at HC qrv HPF;unfold zJ at hW HC ⊢;clear her;go_enter func100,ntmps100;go_upto_region 1 with fail;try rw[hW]
 clear hW;go_wp2_with fail;refine HC.out.mono ?_;rintro e W1 ⟨rfl,hb1⟩;have qT:=QH (qa HB.out hb1);have HM1:=QH (HM.out.below hb1);have ha:=HA.out.below hb1;clear hb1 HC a0 a1 a2 a3 a4 a5 a6 a7 a8 br;by_cases he:er=0
 ·subst he;obtain⟨hpf,iH⟩:=HPF.out rfl;have HPU:=QH (kA A0 A1 A2 d0 d1 d2 m W1 HM1.out hpf);have qzQ:Hid (zx m.live.length++(zv m.live++(zx m.qc.length++(ji m.qc++tkP m.tok)))=zD m):=by unfold Hid;rw[iH];rfl
  rw[qzQ.out]at HPU;have HLB:Hid ((zD m).length≤100000):=by
   unfold Hid;rw[← qzQ.out];have t1:=eJ m.qc (fun x hx=>(hpf.qc x hx).2.1);have t2:=hpf.qzM;have t3:=hpf.few;have t4:=qA m.live.length;have t5:=jD m.live;have t6:=qA m.qc.length;have t7:(tkP m.tok).length≤1000:=by
    unfold tkP;split
    ·have:=qA 0;omega
    ·have:=qA 1;have:=qA m.tok.base.1;have:=qA m.tok.base.2;have:=qA m.tok.target.1;have:=qA m.tok.target.2;have:=qA m.tok.next.toNat;have:=qA m.tok.all.toNat;have:=jD m.tok.qu;have:=hpf.tok.few;unfold jY xJ;simp only[List.length_append];omega
   simp only[List.length_append];omega
  obtain⟨L,hL⟩:=QE (zD m);rw[hL]at HPU HLB qrv;have HFI:Hid (gW m=qiY L):=by unfold Hid;rw[qrv.out,if_neg (by simp)];rfl
  have a0:=ha.cell 0;have a1:=ha.cell 1;have a2:=ha.cell 2;have a3:=ha.cell 3;have a4:=ha.cell 4;have a5:=ha.cell 5;have a6:=ha.cell 6;have a7:=ha.cell 7;have a8:=ha.cell 8;have br:=ha.lt;simp only[zJ,QA,QB,QC]at a0 a1 a2 a3 a4 a5 a6 a7 a8;unfold zJ at HPU;clear hpf iH hL ha;go_wp2_with fail;refine HPU.out.mono ?_;rintro e W2 ⟨rfl,hb2⟩;have qC:=QH (qa qT.out hb2);clear hb2 a0 a1 a2 a3 a4 a5 a6 a7 a8 br;go_wp2_with fail;refine(qrr L W2 HLB.out).mono ?_;rintro e _ ⟨rfl,rfl⟩;rw[← HFI.out];go_wp2_with fail;go_ret2;exact⟨rfl,qC.out⟩
 ·have hne:(er != 0)=true:=by simpa using he
  have HR:Hid (gW m=([],er)):=by unfold Hid;rw[qrv.out,if_pos he]
  clear he ha;go_wp2_with fail;go_ret2;exact⟨by rw[HR.out];rfl,qT.out⟩
end Go.Proofs.YtdpbdkacngaemaaGreatDoor.mt.pg
namespace Go.Proofs.YtdpbdkacngaemaaGreatDoor.mt.pg
open _root_.Go.Proofs.Tryz Go Go.RowKit Go.Proofs.YtdpbdkacngaemaaGreatDoor.ib Go.Proofs.YtdpbdkacngaemaaGreatDoor.wi Go.Proofs.YtdpbdkacngaemaaGreatDoor.im Go.Proofs.YtdpbdkacngaemaaGreatDoor.mt
theorem xT {fn:Func}{p q:Tmp}{ty:TypeId}(h:fn.results = #[.cell p ty,.tmp q])(tmps:Array Value)(P:Program)(w:World)(a:Addr)(v1 v2:Value)
    (hp:tmps.getD p undef=.pointer (some a)) (hq:tmps.getD q undef=v2) (h1:(loadVar ty a).run P w=.ok v1 w):(results fn tmps).run P w=.ok (.tuple #[v1,v2]) w:=by
 simp only[results,h];simp only[Array.getD_eq_getD_getElem?]at hp hq;simp[Sem.run_bind,Result.andThen,asAddr,hp,hq,h1]
end Go.Proofs.YtdpbdkacngaemaaGreatDoor.mt.pg
namespace Go.Proofs.YtdpbdkacngaemaaGreatDoor.mt
open _root_.Go.Proofs.Tryz Go Go.RowKit Go.Proofs.YtdpbdkacngaemaaGreatDoor.ib
end Go.Proofs.YtdpbdkacngaemaaGreatDoor.mt
namespace Go.Proofs.YtdpbdkacngaemaaGreatDoor.dk
abbrev Bt:=List UInt8
abbrev qE:=List (Option Bt)
def zz:Bt:=List.replicate 32 0
def rep (c:UInt8)(n:Nat):Bt:=List.replicate n c
def dat (c:UInt8):Bt:=if c.toNat≤250 then rep c 32 else rep c (c.toNat%31)
theorem qJ:zz.length=32:=by simp[zz]
def look (s:qE)(k:Int):Option Bt:=if 0≤k then(s[k.toNat]?).getD none else none
def put (s:qE)(k:Nat)(v:Bt):qE:=s.set k (some v)
def cnt (s:qE):Nat:=s.countP Option.isSome
theorem eK (s:qE)(k:Nat):look s (k:Int)=(s[k]?).getD none:=by simp[look]
theorem zL (s:qE)(k:Nat)(o:Option Bt)(h:k<s.length):look (s.set k o) (k:Int)=o:=by
 rw[eK,List.getElem?_set_self h];rfl
theorem xa (s:qE)(k:Nat)(j:Int)(o:Option Bt)(h:j≠(k:Int)):look (s.set k o) j=look s j:=by
 unfold look;split
 ·rw[List.getElem?_set_ne (by omega)]
 ·rfl
theorem qhF(s:qE)(k:Nat)(u:Bt)(h:k<s.length)(hx:s[k]=some u):1≤cnt s :=
 List.countP_pos_iff.2 ⟨_,List.getElem_mem h,by rw[hx];rfl⟩
theorem wW (s:qE)(k:Nat)(v:Bt)(h:k<s.length):cnt (s.set k (some v))=if (look s (k:Int)).isSome then cnt s else cnt s+1:=by
 unfold cnt;rw[List.countP_set h,eK,List.getElem?_eq_getElem h];cases hx:s[k]with
 | none=>simp
 | some u =>
  have hle:=qhF s k u h hx;unfold cnt at hle;simp;omega
theorem qaS(s:qE)(k:Nat)(h:k<s.length):cnt (s.set k none)+(if (look s (k:Int)).isSome then 1 else 0)=cnt s:=by
 unfold cnt;rw[List.countP_set h,eK,List.getElem?_eq_getElem h];cases hx:s[k]with
 | none=>simp
 | some u =>
  have hle:=qhF s k u h hx;unfold cnt at hle;simp;omega
theorem qaT(s:qE):cnt s≤s.length:=List.countP_le_length
structure DD where
 room:Int
 base:qE
 more:List (Nat × Bt)
 on:Bool
 qz:Int
def qR (s:qE)(l:List (Nat × Bt)):qE:=l.foldl (fun s w=>put s w.1 w.2) s
theorem zA:∀(l:List (Nat × Bt)) (s:qE),(qR s l).length=s.length
 | [],_=>rfl
 | w::l,s=>by rw[qR,List.foldl_cons,← qR,zA l];simp[put]
theorem aV (s:qE)(w:Nat × Bt)(l:List (Nat × Bt)):qR s (w::l)=qR (put s w.1 w.2) l:=rfl
theorem wk (s:qE)(l:List (Nat × Bt))(w:Nat × Bt):qR s (l++[w])=put (qR s l) w.1 w.2:=by simp[qR]
theorem jE (s:qE)(l r:List (Nat × Bt)):qR s (l++r)=qR (qR s l) r:=by simp[qR]
def DD.n (d:DD):Nat:=d.base.length
def DD.now (d:DD):qE:=qR d.base d.more
theorem DD.yJ(d:DD):d.now.length=d.n:=zA _ _
def DD.used(d:DD):Nat:=cnt d.now
def DD.has (d:DD)(at_:Int):Bool:=decide (0≤at_)&&decide (at_<(d.n:Int))
structure DD.ok(d:DD)(most:Nat):Prop where
 n0:1≤d.n
 n1:d.n≤1024
 qzR:0≤d.room
 qzS:d.room≤9223372036854775807
 qcE:0≤d.qz
 qcF:d.qz≤9223372036854775807
 nT:d.more.length≤most
 at1:∀w∈d.more,w.1<d.n∧w.2.length=32
 tL:∀v,some v∈d.base→v.length=32
theorem DD.ok.mono{d:DD}{m m':Nat}(h:d.ok m)(hm:m≤m'):d.ok m':={ h with nT:=Nat.le_trans h.nT hm }
theorem mem_set{s:qE}{k:Nat}{o:Option Bt}{v:Bt}(h:some v∈s.set k o):some v∈s∨o=some v:=by
 rcases List.mem_or_eq_of_mem_set h with h|h
 ·exact .inl h
 ·exact .inr h.symm
theorem wm {l:List (Nat × Bt)}:∀ {s:qE},(∀v,some v∈s→v.length=32)→(∀w∈l,w.2.length=32)→∀v,some v∈qR s l→v.length=32:=by
 induction l with
 | nil=>intro s h _ v hv;exact h v hv
 | cons w l ih =>
  intro s h hl v hv;refine ih (s:=put s w.1 w.2) (fun u hu=>?_) (fun x hx=>hl x (by simp[hx])) v hv;rcases mem_set hu with h' | h'
  ·exact h u h'
  ·injection h' with h';subst h';exact hl w (by simp)
theorem DD.ok.qzT{d:DD}{m:Nat}(h:d.ok m):∀v,some v∈d.now→v.length=32:=wm h.tL (fun w hw=>(h.at1 w hw).2)
theorem qcG{s:qE}{k:Int}{v:Bt}(h:look s k=some v):some v∈s:=by
 unfold look at h;split at h
 ·cases hx:s[k.toNat]? with
  | none=>rw[hx]at h;simp at h
  | some o=>rw[hx]at h;simp at h;subst h;exact List.mem_of_getElem? hx
 ·cases h
theorem DD.ok.tM{d:DD}{m:Nat}(h:d.ok m){k:Int}{v:Bt}(hv:look d.now k=some v):v.length=32:=h.qzT v (qcG hv)
def jn:qE→List (Nat × Bt)→List (Nat × Bt × Bt × Bool)
 | _,[]=>[]
 | s,(k,v)::r=>(k,v,(look s (k:Int)).getD zz,(look s (k:Int)).isSome)::jn (put s k v) r
theorem jF:∀(l:List (Nat × Bt)) (s:qE),(jn s l).length=l.length
 | [],_=>rfl
 | (k,v)::r,s=>by simp[jn,jF r]
theorem tN:∀(l:List (Nat × Bt)) (s:qE) (k:Nat) (v:Bt),
    jn s (l++[(k,v)])=jn s l++[(k,v,(look (qR s l) (k:Int)).getD zz,(look (qR s l) (k:Int)).isSome)]
 | [],s,k,v=>rfl
 | (j,u)::r,s,k,v=>by
  show _::jn (put s j u) (r++[(k,v)])=_;rw[tN r];rfl
def sq (s:qE)(x:Nat × Bt × Bt × Bool):qE:=if x.2.2.2 then put s x.1 x.2.2.1 else s.set x.1 none
theorem qmV(s:qE)(k:Nat)(v:Bt):sq (put s k v) (k,v,(look s (k:Int)).getD zz,(look s (k:Int)).isSome)=s:=by
 unfold sq put;rw[eK];by_cases hk:k<s.length
 ·rw[List.getElem?_eq_getElem hk];cases hx:s[k]with
  | none=>simp[List.set_set];rw[← hx];exact List.set_getElem_self hk
  | some u=>simp[List.set_set];rw[← hx];exact List.set_getElem_self hk
 ·rw[List.getElem?_eq_none (by omega)];simp[List.set_eq_of_length_le (show s.length≤k by omega)]
theorem nU:∀(l:List (Nat × Bt)) (s:qE) (i:Nat) (h:i<l.length),
    (jn s l)[i]?=some (l[i].1,l[i].2,(look (qR s (l.take i)) (l[i].1:Int)).getD zz,(look (qR s (l.take i)) (l[i].1:Int)).isSome)
 | (k,v)::r,s,0,_=>rfl
 | (k,v)::r,s,i+1,h=>by
  simp only[jn,List.getElem?_cons_succ,List.getElem_cons_succ,List.take_succ_cons,aV];exact nU r (put s k v) i (by simpa using h)
theorem qjf(l:List (Nat × Bt))(s:qE)(i:Nat)(h:i<l.length)(x:Nat × Bt × Bt × Bool)(hx:(jn s l)[i]?=some x) :
    sq (qR s (l.take (i+1))) x=qR s (l.take i):=by
 rw[nU l s i h]at hx;injection hx with hx
 subst hx;rw[List.take_succ_eq_append_getElem h,show[l[i]]=[(l[i].1,l[i].2)]from rfl,wk];exact qmV _ _ _
def stay (l:List (Nat × Bt))(keep:List Bool):List (Nat × Bt) :=
 match l,keep with
 | w::l,b::keep=>(if b then[w]else[])++stay l keep
 | _,_=>[]
theorem qcH(l:List (Nat × Bt)):stay l []=[]:=by cases l <;> rfl
theorem tO:∀(l:List (Nat × Bt)) (keep:List Bool) (k:Nat) (h:k<l.length),stay (l.take (k+1)) keep=stay (l.take k) keep++(if keep[k]?.getD false then[l[k]]else[])
 | w::l,[],k,h=>by simp[qcH]
 | w::l,b::keep,0,_=>by cases b <;> cases l <;> cases keep <;> simp[stay]
 | w::l,b::keep,k+1,h=>by
  simp only[List.take_succ_cons,stay,List.getElem?_cons_succ,List.getElem_cons_succ];rw[tO l keep k (by simpa using h),List.append_assoc]
 | [],_,_,h=>absurd h (by simp)
theorem eL:∀(l:List (Nat × Bt)) (keep:List Bool) (w:Nat × Bt),w∈stay l keep→w∈l
 | [],keep,w,h=>by cases keep <;> simp[stay]at h
 | x::l,[],w,h=>by simp[stay]at h
 | x::l,b::keep,w,h=>by
  simp only[stay,List.mem_append]at h;rcases h with h|h
  ·cases b <;> simp at h;simp[h]
  ·exact List.mem_cons_of_mem _ (eL l keep w h)
def DD.new (qrw:Nat)(room:Int):DD:={ room:=room,base:=List.replicate qrw none,more:=[],on:=true,qz:=0 }
def DD.off (d:DD):DD:={ d with on:=false,qz:=0 }
def DD.arm (d:DD)(n:Int):DD:={ d with qz:=max n 0 }
def DD.qaU (d:DD)(keep:List Bool):DD:=if d.on then d else { d with base:=qR d.base (stay d.more keep),more:=[],on:=true }
def DD.oper(d:DD):DD:=if d.qz=1 then d.off else if 1<d.qz then { d with qz:=d.qz-1 }else d
def DD.write(d:DD)(at_:Int)(data:Bt):Int × DD :=
 if d.on=false then(6,d)
 else if d.has at_=false∨data.length≠32 then(2,d)
 else if (look d.now at_).isSome=false∧d.room≤(d.used:Int)then(7,d)
 else if d.oper.on=false then(6,d.oper)
 else(0,{ d.oper with more:=d.more++[(at_.toNat,data)] })
def DD.flush(d:DD):Int × DD :=
 if d.on=false then(6,d)
 else if d.oper.on=false then(6,d.oper)
 else(0,{ d.oper with base:=d.now,more:=[] })
def DD.read(d:DD)(at_:Int):Bt × Int :=
 if d.on=false then([],6)
 else if d.has at_=false then([],2)
 else((look d.now at_).getD zz,0)
def fresh (s:qE):List Int→List Int→List Int
 | acc,[]=>acc
 | acc,x::r=>if (look s x).isSome || acc.contains x then fresh s acc r else fresh s (acc++[x]) r
def DD.fits(d:DD)(l:List Int):Bool :=
 l.all d.has&&(decide ((fresh d.now [] l).length=0) || decide (((fresh d.now [] l).length:Int)≤d.room-(d.used:Int)))
end Go.Proofs.YtdpbdkacngaemaaGreatDoor.dk
namespace Go.Proofs.YtdpbdkacngaemaaGreatDoor.dk
open _root_.Go.Proofs.Tryz Go Go.RowKit
abbrev D1:=DataW Unit
def qmW:Value→D1
 | .int k a=>.lit (.int k a)
 | _=>.nil
def tP:Value→Option (D1 × List MemPlace)
 | .agg cs=>some (.agg (cs.toList.map qmW),[])
 | _=>none
def eM (v:Bt):Value:=.agg (Lib.byteCells v).toArray
def qf6 (v:Bt):D1:=.agg ((Lib.byteCells v).map qmW)
theorem nV (v:Bt):tP (eM v)=some (qf6 v,[]):=by simp[tP,eM,qf6]
theorem qcI:∀(l:List Value) (v:Bt),l.map qmW=(Lib.byteCells v).map qmW→l=Lib.byteCells v
 | [],[],_=>rfl
 | x::l,[],h=>by simp[Lib.byteCells]at h
 | [],b::v,h=>by simp[Lib.byteCells]at h
 | x::l,b::v,h=>by
  simp only[Lib.byteCells,List.map_cons,List.cons.injEq]at h ⊢;refine⟨?_,qcI l v h.2⟩;have h1:=h.1;cases x <;> simp[qmW]at h1;rw[h1.1,h1.2]
theorem tQ {x:Value}{v:Bt}{ps:List MemPlace}(h:tP x=some (qf6 v,ps)):x=eM v:=by
 cases x <;> simp[tP,qf6]at h;rename_i cs;have:=qcI cs.toList v (by simpa using h.1);rw[eM,← this]
theorem qrx:eM zz=.agg #[Value.int IntKind.u8 0,Value.int IntKind.u8 0,Value.int IntKind.u8 0,Value.int IntKind.u8 0,Value.int IntKind.u8 0,Value.int IntKind.u8 0,Value.int IntKind.u8 0,Value.int IntKind.u8 0,Value.int IntKind.u8 0,Value.int IntKind.u8 0,Value.int IntKind.u8 0,Value.int IntKind.u8 0,Value.int IntKind.u8 0,Value.int IntKind.u8 0,Value.int IntKind.u8 0,Value.int IntKind.u8 0,Value.int IntKind.u8 0,Value.int IntKind.u8 0,Value.int IntKind.u8 0,Value.int IntKind.u8 0,Value.int IntKind.u8 0,Value.int IntKind.u8 0,Value.int IntKind.u8 0,Value.int IntKind.u8 0,Value.int IntKind.u8 0,Value.int IntKind.u8 0,Value.int IntKind.u8 0,Value.int IntKind.u8 0,Value.int IntKind.u8 0,Value.int IntKind.u8 0,Value.int IntKind.u8 0,Value.int IntKind.u8 0]:=rfl
def zH (w:World)(m:Nat)(s:qE):Prop :=
 ∃D:D1,w.ownsMap prog 3 tP m (Maps.size D) D∧(∀k:Int,Maps.has D (.int .i64 k)=(look s k).isSome) ∧
  (∀(k:Int) v,look s k=some v→∀z,D.atKey (.int .i64 k) z=qf6 v)∧Maps.size D=cnt s
theorem iI {w:World}{b n:Nat}{D:D1}{P:Program}{k:TypeId}{R:Value→Option (D1 × List MemPlace)}(h:w.ownsMap P k R b n D):w.ownsMap P k R b (Maps.size D) D:=by
 obtain⟨es,clock,hb,F,_,rfl⟩:=h;exact⟨es,clock,hb,F,by simp[Maps.size,length_sorted],rfl⟩
theorem zH.lt{w:World}{m:Nat}{s:qE}(h:zH w m s):m<w.heap.size:=by
 obtain⟨D,h1,_⟩:=h;exact h1.lt
theorem zH.of_block{w w':World}{m:Nat}{s:qE}(h:zH w m s)(hb:w'.heap[m]?=w.heap[m]?):zH w' m s:=by
 obtain⟨D,⟨es,clock,h1,h2⟩,h3⟩:=h;exact⟨D,⟨es,clock,hb.trans h1,h2⟩,h3⟩
theorem zH.made(w:World)(n:Nat):zH (w.alloc (.map #[] 0)) w.heap.size (List.replicate n none):=by
 have hl:∀k:Int,look (List.replicate n none) k=none:=by
  intro k;unfold look;split
  ·simp only[List.getElem?_replicate];split <;> rfl
  ·rfl
 refine⟨.map [],World.ownsMap_made w prog 3 tP,fun k=>by rw[hl];rfl,fun k v h=>(by rw[hl]at h;cases h),?_⟩;simp[Maps.size,cnt,List.countP_replicate]
theorem qf7(k:Int):WideAt.IsKeyLit (Lit.int .i64 k):=trivial
abbrev keyed:Go.Maps.Keyed prog 3:=Go.Maps.int_keyed underlying3
theorem qry(k:Int)(h0 : -9223372036854775808≤k)(h1:k≤9223372036854775807):(Lit.int .i64 k).wf=true:=WalkArith.wf_i64 (by omega)
theorem zH.find{w:World}{m:Nat}{s:qE}(h:zH w m s)(k:Int)(h0 : -9223372036854775808≤k)(h1:k≤9223372036854775807) :
    (Instr.lookup 85 (.map (some m)) (.int .i64 k) true).run prog w=.ok (.tuple #[eM ((look s k).getD zz),.bool (look s k).isSome]) w ∧
    (Instr.lookup 85 (.map (some m)) (.int .i64 k) false).run prog w=.ok (eM ((look s k).getD zz)) w:=by
 obtain⟨D,hown,hh,ha,_⟩:=h;have hkey:=Go.Maps.keyOf_int_mk (P:=prog) (k:=3) underlying3 (qry k h0 h1);have hz:(zeroValue 146).run prog w=.ok (eM zz) w:=by rw[qrx];exact zeroValue146 w
 have hat:D.atKey (.int .i64 k) (qf6 zz)=qf6 ((look s k).getD zz):=by
  cases hx:look s k with
  | none=>exact Maps.atKey_of_not_has (by rw[hh,hx];rfl) _
  | some v=>exact ha k v hx _
 obtain⟨v,ps,hrun,hv⟩:=hown.look_ok keyed underlying85 hz (nV zz) hkey;obtain⟨v2,ps2,lG,hv2⟩:=hown.lookup keyed underlying85 hz (nV zz) hkey;rw[hat]at hv hv2;rw[tQ hv,hh]at hrun;rw[tQ hv2]at lG;exact⟨hrun,lG⟩
theorem zH.len{w:World}{m:Nat}{s:qE}(h:zH w m s)(ty:TypeId):(Builtin.len_ #[85] ty #[.map (some m)]).run prog w=.ok (.int .i64 (cnt s:Int)) w:=by
 obtain⟨D,hown,_,_,hc⟩:=h;rw[← hc];exact hown.len underlying85 ty
theorem nW {a b:Int}(h:a≠b):(Lit.int .i64 a)≠Lit.int .i64 b:=fun e=>h (by injection e)
theorem zH.store{w:World}{m:Nat}{s:qE}(h:zH w m s)(k:Nat)(v:Bt)(hk:k<s.length)(h1:s.length≤1024) :
    ∃w',(Instr.mapUpdate 85 (.map (some m)) (.int .i64 (k:Int)) (eM v)).run prog w=.ok () w'∧zH w' m (put s k v)∧w.mapTurned w' m:=by
 obtain⟨D,hown,hh,ha,hc⟩:=h;have hkey:=Go.Maps.keyOf_int_mk (P:=prog) (k:=3) underlying3 (qry (k:Int) (by omega) (by omega));have hti:=hown.tidy keyed;have hcl:=qaT s;obtain⟨w',hrun,r1,r2⟩:=hown.store keyed underlying85 (by unfold maxLen;omega) hkey (nV v);refine⟨w',hrun,⟨_,iI r1,?_,?_,?_⟩,r2⟩
 ·intro j;by_cases e:j=(k:Int)
  ·subst e;rw[Maps.has_put_same hti.isMap (qf7 _),put,zL _ _ _ hk];rfl
  ·rw[Maps.has_put_other (nW e),put,xa _ _ _ _ e,hh]
 ·intro j u hu z;by_cases e:j=(k:Int)
  ·subst e;rw[put,zL _ _ _ hk]at hu;injection hu with hu
   subst hu;exact Maps.atKey_put_same hti.isMap (qf7 _) _ _
  ·rw[put,xa _ _ _ _ e]at hu;rw[Maps.atKey_put_other (nW e)];exact ha j u hu z
 ·rw[Maps.size_put hti,put,wW _ _ _ hk,hh,hc]
theorem zH.drop{w:World}{m:Nat}{s:qE}(h:zH w m s)(k:Nat)(hk:k<s.length)(h1:s.length≤1024)(ty:TypeId) :
    ∃w',(Builtin.delete_ #[85,3] ty #[.map (some m),.int .i64 (k:Int)]).run prog w=.ok (.tuple #[]) w'∧zH w' m (s.set k none)∧w.mapTurned w' m:=by
 obtain⟨D,hown,hh,ha,hc⟩:=h;have hkey:=Go.Maps.keyOf_int_mk (P:=prog) (k:=3) underlying3 (qry (k:Int) (by omega) (by omega));have hti:=hown.tidy keyed;obtain⟨w',hrun,r1,r2⟩:=hown.drop keyed underlying85 hkey ty;refine⟨w',hrun,⟨_,iI r1,?_,?_,?_⟩,r2⟩
 ·intro j;by_cases e:j=(k:Int)
  ·subst e;rw[Maps.has_del_same,zL _ _ _ hk];rfl
  ·rw[Maps.has_del_other (nW e),xa _ _ _ _ e,hh]
 ·intro j u hu z;by_cases e:j=(k:Int)
  ·subst e;rw[zL _ _ _ hk]at hu;cases hu
  ·rw[xa _ _ _ _ e]at hu;rw[Maps.atKey_del_other (nW e)];exact ha j u hu z
 ·have g1:=Maps.size_del (k:=.int .i64 (k:Int)) hti;have g2:=qaS s k hk;rw[hh]at g1;omega
def qd (w:World)(g:Nat)(t:TypeId)(cs:Array Value):Prop:=w.heap[g]?=some (.cells cs t (0,0))
section
variable {w w':World} {g:Nat} {t:TypeId} {cs:Array Value}
theorem qd.lt(h:qd w g t cs):g<w.heap.size:=by
 unfold qd at h;exact(Array.getElem?_eq_some_iff.1 h).1
theorem qd.cell(h:qd w g t cs)(i:Nat):w.cell? ⟨g,i,none⟩=cs[i]? :=cell_of_row w g i cs t (0,0) h
theorem qd.frozen(h:qd w g t cs)(i:Nat):w.frozen? ⟨g,i,none⟩=false:=by
 unfold qd at h;simp[World.frozen?,h]
theorem qd.new(w:World)(t:TypeId)(cs:Array Value):qd (w.alloc (.cells cs t)) w.heap.size t cs:=heap_alloc_new w _
theorem qd.of_block(h:qd w g t cs)(hb:w'.heap[g]?=w.heap[g]?):qd w' g t cs:=hb.trans h
theorem qd.qo(h:qd w g t cs)(i:Nat)(u:Value):qd (w.setCell ⟨g,i,none⟩ u) g t (cs.setIfInBounds i u):=heap_setCell_same w g i cs t u h
end
structure qB(S:Nat→Prop)(w w':World):Prop where
 os:w'.os=w.os
 tape:w'.tape=w.tape
 output:w'.output=w.output
 size:w.heap.size≤w'.heap.size
 block:∀k,k<w.heap.size→¬ S k→w'.heap[k]?=w.heap[k]?
section
variable {S S':Nat→Prop} {a b c w w':World}
theorem qB.refl(S:Nat→Prop)(w:World):qB S w w:=⟨rfl,rfl,rfl,Nat.le_refl _,fun _ _ _=>rfl⟩
theorem qB.trans(h:qB S a b)(k:qB S' b c)(hs:∀i,S' i→S i∨a.heap.size≤i):qB S a c :=
 ⟨k.os.trans h.os,k.tape.trans h.tape,k.output.trans h.output,Nat.le_trans h.size k.size,fun i hi hn=>by
  refine(k.block i (Nat.lt_of_lt_of_le hi h.size) (fun e=>?_)).trans (h.block i hi hn);rcases hs i e with h1|h1
  ·exact hn h1
  ·omega⟩
theorem qB.mono(h:qB S w w')(hs:∀i,S i→S' i):qB S' w w':=⟨h.os,h.tape,h.output,h.size,fun k hk hn=>h.block k hk (fun e=>hn (hs k e))⟩
theorem qB.of_below(h:Below w.heap.size w w'):qB S w w':=⟨h.os,h.tape,h.output,h.size,fun k hk _=>h.block k hk⟩
theorem qB.qcJ{row:Option Nat}(h:w.grownBy w' row)(hs:∀k,row=some k→S k):qB S w w' :=
 ⟨h.os,h.tape,h.output,h.size,fun k hk hn=>h.block k hk (fun e=>hn (hs k e.symm))⟩
theorem qB.drew(h:qB S a w):qB S a w.drew:=⟨h.os,h.tape,h.output,h.size,h.block⟩
theorem qB.drewN(h:qB S a w)(n:Nat):qB S a (w.drewN n):=⟨h.os,h.tape,h.output,h.size,h.block⟩
theorem qB.alloc(h:qB S a w)(o:Obj):qB S a (w.alloc o) :=
 h.trans (S':=fun _=>False) ⟨rfl,rfl,rfl,by simp,fun k hk _=>Below.heap_alloc _ _ _ hk⟩ (fun _ e=>e.elim)
theorem qB.setCell(h:qB S a w)(p:Addr)(u:Value)(hp:S p.block∨a.heap.size≤p.block):qB S a (w.setCell p u) :=
 h.trans (S':=fun k=>k=p.block) ⟨rfl,rfl,rfl,by simp[World.setCell],fun k _ hn=>Below.heap_setCell _ _ _ _ hn⟩ (fun i e=>by rw[e];exact hp)
theorem qB.grown{row:Option Nat}(h:qB S a w)(hg:w.grownBy w' row)(hs:∀k,row=some k→S k∨a.heap.size≤k):qB S a w' :=
 h.trans (S':=fun k=>row=some k) (qB.qcJ hg (fun _ e=>e)) hs
theorem qB.below{B:Nat}(h:qB S a w)(hs:∀i,S i→B≤i)(hB:B≤a.heap.size):Below B a w :=
 ⟨h.os,h.tape,h.output,h.size,fun k hk=>h.block k (by omega) (fun e=>by have:=hs k e;omega)⟩
end
def qg (x:Nat × Bt × Bt × Bool):List Value:=.int .i64 (x.1:Int)::(Lib.byteCells x.2.1++(Lib.byteCells x.2.2.1++[.bool x.2.2.2]))
def jb (l:List (Nat × Bt × Bt × Bool)):List Value:=l.flatMap qg
theorem zt {w w':World}{base e size n:Nat}{v:Value}{xs:List Value}(h:w.ownsRow base e size v n xs)(hb:∀k,v.ownBlock=some k→w'.heap[k]?=w.heap[k]?):w'.ownsRow base e size v n xs:=by
 refine⟨h.1,?_⟩;rcases h.2 with hn|⟨g,cap,cur,rfl,h1,h2,r⟩
 ·exact .inl hn
 ·exact .inr ⟨g,cap,cur,rfl,h1,(hb g rfl).trans h2,r⟩
theorem jP {w:World}{base e size n:Nat}{v:Value}{xs:List Value}(h:w.ownsRow base e size v n xs):∀k,v.ownBlock=some k→k<w.heap.size:=by
 intro k hk;rcases h.2 with⟨rfl,_⟩|⟨g,cap,cur,rfl,h1,h2,r⟩
 ·cases hk
 ·simp[Value.ownBlock]at hk;subst hk;exact(Array.getElem?_eq_some_iff.1 h2).1
def uL (w:World)(own:Nat→Prop)(p m:Nat)(v:Value)(d:DD):Prop :=
 qd w p 88 #[.int .i64 (d.n:Int),.int .i64 d.room,.map (some m),v,.bool d.on,.int .i64 d.qz]∧zH w m d.now ∧
 w.ownsRow 0 148 66 v d.more.length (jb (jn d.base d.more)) ∧
 own p∧own m∧(∀k,v.ownBlock=some k→own k)∧(∀k,own k→k<w.heap.size)
def zK (most:Nat)(w:World)(own:Nat→Prop)(p:Nat)(d:DD):Prop:=d.ok most∧∃m v,uL w own p m v d
theorem uL.ne{w:World}{own:Nat→Prop}{p m:Nat}{v:Value}{d:DD}(h:uL w own p m v d):p≠m∧(∀k,v.ownBlock=some k→k≠p∧k≠m):=by
 obtain⟨h1,⟨D,⟨es,clock,h2,_⟩,_⟩,h3,_⟩:=h;unfold qd at h1;refine⟨?_,?_⟩
 ·rintro rfl;rw[h1]at h2;cases h2
 ·intro k hk;rcases h3.2 with⟨rfl,_⟩|⟨g,cap,cur,rfl,_,hg,_⟩
  ·cases hk
  ·simp[Value.ownBlock]at hk;subst hk;refine⟨?_,?_⟩
   ·rintro rfl;rw[h1]at hg;simp only[Option.some.injEq,Obj.cells.injEq]at hg;exact absurd hg.2.1 (by decide)
   ·rintro rfl;rw[h2]at hg;cases hg
theorem uL.keep{w w':World}{own:Nat→Prop}{p m:Nat}{v:Value}{d:DD}(h:uL w own p m v d)(hs:w.heap.size≤w'.heap.size)(hb:∀k,own k→w'.heap[k]?=w.heap[k]?):uL w' own p m v d:=by
 obtain⟨h1,h2,h3,hp,hm,hv,hl⟩:=h;exact⟨h1.of_block (hb _ hp),h2.of_block (hb _ hm),zt h3 (fun k hk=>hb k (hv k hk)),hp,hm,hv,fun k hk=>Nat.lt_of_lt_of_le (hl k hk) hs⟩
theorem zK.keep{most:Nat}{w w':World}{own:Nat→Prop}{p:Nat}{d:DD}(h:zK most w own p d)(hs:w.heap.size≤w'.heap.size)(hb:∀k,own k→w'.heap[k]?=w.heap[k]?):zK most w' own p d:=by
 obtain⟨h0,m,v,h1⟩:=h;exact⟨h0,m,v,h1.keep hs hb⟩
def ub (own yK:Nat→Prop)(w:World):Prop:=∀k,yK k→own k∨w.heap.size≤k
theorem ub.refl(own:Nat→Prop)(w:World):ub own own w:=fun _ h=>.inl h
def xj (most:Nat)(own:Nat→Prop)(p:Nat)(d:DD)(r:Value)(w:World)(e:Ending)(w':World):Prop :=
 e=.returned r∧∃yK,zK most w' yK p d∧qB own w w'∧ub own yK w
end Go.Proofs.YtdpbdkacngaemaaGreatDoor.dk
namespace Go.Proofs.YtdpbdkacngaemaaGreatDoor.dk
open _root_.Go.Proofs.Tryz Go Go.RowKit
theorem qmX{ρ:Operand→Value}{o:Oper}{w:World}{b:Nat}{s:qE}(x:Operand)(ho:o.op=.call { callee:=.builtin .len,args:=#[x],argTypes:=#[85] })(hx:ρ x=.map (some b))(h:zH w b s) :
    (execOp ρ o).run prog w=.ok (.value (.int .i64 (cnt s:Int))) w:=by
 simp[execOp,ho,resolve,invoke,builtin,hx,h.len o.type,Result.andThen]
theorem wX {ρ:Operand→Value}{o:Oper}{w:World}{b:Nat}{s:qE}(x y:Operand)(ho:o.op=.lookup 85 x y true)(hx:ρ x=.map (some b))(h:zH w b s)
    (k:Int) (hy:ρ y=.int .i64 k) (h0 : -9223372036854775808≤k) (h1:k≤9223372036854775807) :
    (execOp ρ o).run prog w=.ok (.value (.tuple #[eM ((look s k).getD zz),.bool (look s k).isSome])) w:=by
 simp[execOp,ho,hx,hy,(h.find k h0 h1).1,Result.andThen]
theorem qjg{ρ:Operand→Value}{o:Oper}{w:World}{b:Nat}{s:qE}(x y:Operand)(ho:o.op=.lookup 85 x y false)(hx:ρ x=.map (some b))(h:zH w b s)
    (k:Int) (hy:ρ y=.int .i64 k) (h0 : -9223372036854775808≤k) (h1:k≤9223372036854775807) :
    (execOp ρ o).run prog w=.ok (.value (eM ((look s k).getD zz))) w:=by
 simp[execOp,ho,hx,hy,(h.find k h0 h1).2,Result.andThen]
theorem kU {ops:Array Oper}{rest:List Oper}{o:Oper}{a:Act}{w:World}{Q:Exit→Act→World→Prop}{b:Nat}{s:qE}(hg:o.guard=none)(x y z:Operand)(ho:o.op=.mapUpdate 85 x y z)(hx:a.eval x=.map (some b))(h:zH w b s)
    (k:Nat) (hy:a.eval y=.int .i64 (k:Int)) (v:Bt) (hz:a.eval z=eM v) (hk:k<s.length) (h1:s.length≤1024)
    (hK:∀w',zH w' b (put s k v)→w.mapTurned w' b→wpList prog ops Q rest (a.put o.dst undef) w'):wpList prog ops Q (o::rest) a w:=by
 refine wpList_plain hg fun K' hK'=>?_;obtain⟨w',hrun,r1,r2⟩:=h.store k v hk h1;unfold Oper.wp;simp[execOp,ho,hx,hy,hz,hrun,Result.andThen];exact hK' _ _ (hK w' r1 r2)
theorem nX {ops:Array Oper}{rest:List Oper}{o:Oper}{a:Act}{w:World}{Q:Exit→Act→World→Prop}{b:Nat}{s:qE}(hg:o.guard=none)(x y:Operand)(ho:o.op=.call { callee:=.builtin .delete,args:=#[x,y],argTypes:=#[85,3] })(hx:a.eval x=.map (some b))(h:zH w b s)
    (k:Nat) (hy:a.eval y=.int .i64 (k:Int)) (hk:k<s.length) (h1:s.length≤1024)
    (hK:∀w',zH w' b (s.set k none)→w.mapTurned w' b→wpList prog ops Q rest (a.put o.dst (.tuple #[])) w'):wpList prog ops Q (o::rest) a w:=by
 refine wpList_plain hg fun K' hK'=>?_;obtain⟨w',hrun,r1,r2⟩:=h.drop k hk h1 o.type;unfold Oper.wp;simp[execOp,ho,resolve,invoke,builtin,hx,hy,hrun,Result.andThen];exact hK' _ _ (hK w' r1 r2)
theorem yL {w w':World}{b:Nat}(h:w.mapTurned w' b):qB (fun k=>k=b) w w':=qB.qcJ h.grown (fun _ e=>by injection e with e;exact e.symm)
theorem qZ {ρ:Operand→Value}{o:Oper}{P:Program}(w:World)(t:TypeId)(c c':Array Value)(x y:Operand)(ho:o.op=.store t x y)(hx:ρ x=.pointer (some ⟨w.heap.size,0,none⟩))(hy:ρ y=.agg c')
    (hi:(P.info? t).map (·.size)=some c'.size) (hoc:c.size=c'.size) (h1:c'.all (·.oneCell')=true) :
    (execOp ρ o).run P (w.alloc (.cells c t))=.ok .skip (w.alloc (.cells c' t)):=by
 have hr:=run_storeAt_new (P:=P) w t c c' hi hoc h1;simp[execOp,ho,hx,hy,hr,Result.andThen]
theorem iJ (q:Bt):(Lib.byteCells q).toArray.all (·.oneCell')=true:=by
 rw[Array.all_eq_true'];intro u hu;exact Lib.byteCells_one q u (by simpa using hu)
theorem bX:(prog.info? 146).map (·.size)=some 32:=by kernel_rfl
theorem yV {P:Program}(w:World)(g o:Nat)(t ty:TypeId)(cs:Array Value)(xs:List Value)(fr:Nat × Nat)(d:TypeDesc)(hg:w.heap[g]?=some (.cells cs t fr))
    (hu:P.underlying ty=some d) (hd:(match d with | .struct _ | .array _ _=>true|_=>false)=true) (hi:(P.info? ty).map (·.size)=some xs.length) (hx:∀j u,xs[j]?=some u→cs[o+j]?=some u) :
    (loadVar ty ⟨g,o,none⟩).run P w=.ok (.agg xs.toArray) w:=by
 have hl:(loadCells ⟨g,o,none⟩ xs.length).run P w=.ok xs.toArray w :=
  run_loadCells_list (P:=P) w ⟨g,o,none⟩ xs (fun j v hv=>by
   rw[addr_add,cell_of_row w g (o+j) cs t fr hg];exact hx j v hv)
 cases hq:P.info? ty with
 | none=>simp[hq]at hi
 | some i =>
  have hs:i.size=xs.length:=by simpa[hq]using hi
  have hagg:(isAgg ty).run P w=.ok true w:=by
   unfold isAgg;rw[Sem.run_bind,run_underlying hu w];cases d <;> simp_all
  simp[loadVar,Sem.run_bind,hagg,sizeOf,typeInfo,hq,hs,hl]
theorem qF {ρ:Operand→Value}{o:Oper}{P:Program}{w:World}(ty:TypeId)(x:Operand)(ho:o.op=.load ty x)(g i:Nat)(hx:ρ x=.pointer (some ⟨g,i,none⟩))(t:TypeId)(cs:Array Value)(xs:List Value)(fr:Nat × Nat)(d:TypeDesc)
    (hg:w.heap[g]?=some (.cells cs t fr)) (hu:P.underlying ty=some d) (hd:(match d with | .struct _ | .array _ _=>true|_=>false)=true) (hi:(P.info? ty).map (·.size)=some xs.length) (hc:∀j u,xs[j]?=some u→cs[i+j]?=some u) :
    (execOp ρ o).run P w=.ok (.value (.agg xs.toArray)) w:=by
 simp only[execOp,ho,hx,Instr.loadAt,Instr.sureAddr,Sem.run_bind,Sem.run_pure,Result.andThen_ok,yV w g i t ty cs xs fr d hg hu hd hi hc]
end Go.Proofs.YtdpbdkacngaemaaGreatDoor.dk

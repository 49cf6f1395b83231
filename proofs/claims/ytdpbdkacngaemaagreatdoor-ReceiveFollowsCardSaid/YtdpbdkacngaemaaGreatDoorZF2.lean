/- MgSns, MtDs, MgTake, MgLay, MgSame, MgChk, MtAbove, ImRefI, ImRefC, MtChk, MgCk, MgPut, WiRefP, MtNums, MtGdB, MtSize, SlotsP, MtEnc, MgEnc, MtProg, DkPure, DkMap, DkMem, DkOps, DkEasy. -/
import Derived.Test.YtdpbdkacngaemaaGreatDoorZF1
import Derived.Laws.EntriesVeiled
import Derived.Lib.QuietBelow
import Derived.Laws.AppendOwnNone
import Derived.Lib.BufferWrite
set_option linter.unusedVariables false
set_option linter.unusedSimpArgs false
set_option maxHeartbeats 30000000
set_option maxRecDepth 100000
namespace Go.Proofs.YtdpbdkacngaemaaGreatDoor.mt.pg
open _root_.Go.Proofs.Tryz Go Go.RowKit ib wi im mt
def tH:eH:=(⟨(0,0),[],false⟩,.slice none 0 0)
theorem tI:∀(l:List eH) (k:Nat) (_:k<l.length) (x:eH) (a b c d:Value),iA x=[a,b,c,d]→((((zD l).set (k*4) a).set (k*4+1) b).set (k*4+2) c).set (k*4+3) d=zD (l.set k x)
 | y::l,0,_,x,a,b,c,d,h=>by
  show(((((iA y++zD l).set (0*4) a).set (0*4+1) b).set (0*4+2) c).set (0*4+3) d)=iA x++zD l;rw[h];rfl
 | y::l,k+1,hk,x,a,b,c,d,h=>by
  have ih:=tI l k (by simpa using hk) x a b c d h;have e:∀(j:Nat) (R:List Value) (u:Value),(iA y++R).set ((k+1)*4+j) u=iA y++R.set (k*4+j) u:=fun j R u=>by
   rw[show(k+1)*4+j=(k*4+j)+4 by omega];rfl
  show(((((iA y++zD l).set ((k+1)*4) a).set ((k+1)*4+1) b).set ((k+1)*4+2) c).set ((k+1)*4+3) d)=iA y++zD (l.set k x);rw[show(k+1)*4=(k+1)*4+0 from rfl,e 0,Nat.add_zero,e 1,e 2,e 3,← ih]
theorem qqW(n i:Nat)(h:i<n)(j:Nat)(hj:j<4):(zD (List.replicate n tH))[i*4+j]?=(iA tH)[j]? :=by
 rw[xR _ i (by simpa using h) j hj,List.getElem_replicate]
theorem qiO(n:Nat):madeCells #[.int .u64 0,.int .u64 0,.slice none 0 0,.bool false] (n*4)=(zD (List.replicate n tH)).toArray:=by
 apply Array.ext
 ·rw[size_madeCells,List.size_toArray,yS,List.length_replicate]
 ·intro j h1 h2;have hj:j<n*4:=by simpa[yS]using h2
  have hm:j%4<4:=Nat.mod_lt _ (by omega);have e:=qqW n (j/4) (by omega) (j%4) hm;rw[show j/4*4+j%4=j by omega]at e;have e2:(zD (List.replicate n tH)).toArray[j]?=(iA tH)[j%4]? :=by simpa using e
  rw[Array.getElem?_eq_getElem h2]at e2;obtain⟨q,hq⟩:=QE (j%4);rw[hq]at e2 hm
  match q,hm with
  | 0,_=>rw[Option.some.inj e2];simp[madeCells,hq,tH]
  | 1,_=>rw[Option.some.inj e2];simp[madeCells,hq,tH]
  | 2,_=>rw[Option.some.inj e2];simp[madeCells,hq,tH]
  | 3,_=>rw[Option.some.inj e2];simp[madeCells,hq,tH]
theorem qfs(n:Nat)(h:n≤1000)(W:World):(Instr.makeSlice 94 (.int .i64 (n:Int)) (.int .i64 (n:Int))).run prog W=.ok (.slice (some ⟨W.heap.size,0,none⟩) n n) (W.alloc (.cells (zD (List.replicate n tH)).toArray 141)):=by
 obtain⟨i0,hi,hz0,hz1,hz2⟩:=info_parts qmn;have hmk:=run_make (P:=prog) W 94 141 i0 (.agg #[.int .u64 0,.int .u64 0,.slice none 0 0,.bool false]) underlying94 hi hz0 .i64 .i64 (n:Int) (n:Int) (by omega) (Int.le_refl _) (by rw[hz2];omega) (by omega);rw[hz1]at hmk;rw[← qiO];simpa[Value.cells]using hmk
theorem qiP{l:List eH}{n k:Nat}(hl:l.length=k)(hk:k<n)(z:eH):(l++List.replicate (n-k) tH).set k z=(l++[z])++List.replicate (n-(k+1)) tH:=by
 rw[List.set_append_right _ _ (by omega),hl,Nat.sub_self,show n-k=(n-(k+1))+1 by omega,List.replicate_succ,List.set_cons_zero,List.append_assoc];rfl
structure Sn(b c n g:Nat)(s:St)(w:World)(k:Nat)(xs:List eH)(wr:World):Prop where
 len:xs.length=k
 is:xs.map (·.1)=(uz b k s).1
 row:qf wr g 141 (zD (xs++List.replicate (n-k) tH)).toArray
 qp:∀x∈xs,zg wr w.heap.size x.2 x.1.qp
 rd:Rd w c (uz b k s).2 wr
def qyU (b c n g:Nat)(s:St)(w:World)(i:Value)(wr:World):Prop:=∃(k:Nat) (xs:List eH),k≤n∧i=.int .i64 (k:Int)∧Sn b c n g s w k xs wr
def quY (b c n:Nat)(s:St)(w:World)(e:Ending)(w':World):Prop:=∃g xs,e=.returned (.slice (some ⟨g,0,none⟩) n n)∧w.heap.size≤g∧Sn b c n g s w n xs w'
theorem qqX{w:World}{kb rb pb c b:Nat}{s:St}(n:Nat)(hn:n≤100)(hb:b≤100)(h:PS w c s)(he:iF w kb rb pb c b) :
    Calls prog 204 #[.int .i64 (n:Int),.func (.func 205) #[] #[ptr rb,ptr pb]] w (quY b c n s w):=by
 have hmk:∀W,(Instr.makeSlice 94 (.int .i64 (n:Int)) (.int .i64 (n:Int))).run prog W=.ok (.slice (some ⟨W.heap.size,0,none⟩) n n) (W.alloc (.cells (zD (List.replicate n tH)).toArray 141)):=fun W=>qfs n (by omega) W;have HP:=QH h;have HE:=QH he;clear h he;have hb0:=(Below.refl w.heap.size w).alloc (Nat.le_refl _) (.cells (zD (List.replicate n tH)).toArray 141);have HS0:Hid (Sn b c n w.heap.size s w 0 [] (w.alloc (.cells (zD (List.replicate n tH)).toArray 141))):=⟨rfl,rfl,qf.new w 141 _,fun x hx=>absurd hx (by simp),qz.of_below hb0,HP.out.below hb0⟩;clear hb0;go_enter func204,ntmps204;go_wp2_with fail;obtain⟨W0,hW0⟩:=QE (w.alloc (.cells (zD (List.replicate n tH)).toArray 141));rw[hW0]at HS0;try rw[hW0]
 clear hW0 hmk;obtain⟨g,hg⟩:=QE w.heap.size;have gH:=QH (Nat.le_of_eq hg);have hS0:=HS0.out;rw[hg]at hS0;have bY:=QH hS0;try rw[hg]
 clear hg hS0 HS0;go_loopw [6,11] (fun _ i wr=>qyU b c n g s w i wr) (fun _ i _=>n-(intOf i).toNat);case atStart=>exact⟨0,[],Nat.zero_le _,rfl,bY.out⟩
 case round =>
  obtain⟨k,xs,hk,rfl,hS⟩:=hrel;have HSK:=QH hS;clear hS;by_cases hlt:k<n
  ·have yt:(k:Int)<(n:Int):=by omega
   have HEK:=QH (HE.out.rd HP.out.blk HSK.out.rd);go_wp2_with fail;refine(qmC hb HSK.out.rd.ps HEK.out).mono ?_;rintro e W ⟨gi,rfl,hgi,bW,hq⟩;have HQ:=QH hq;have mH:=QH (qlQ b (uz b k s).2);have HGW:=QH (hq.blk HSK.out.row HSK.out.rd.ps.blk (by decide));have HIM:Hid (∀x∈xs,zg W w.heap.size x.2 x.1.qp):=fun x hx=>uF (HSK.out.qp x hx) (hq.kp HSK.out.rd.ps) (by decide);have HRW:=QH (HSK.out.rd.trans hq);have HOI:Hid (zg W w.heap.size (.slice (some ⟨gi,0,none⟩) b b) (nH b (uz b k s).2).1.qp):=by
    have h1:=qm4 (B:=w.heap.size) bW (by have:=HSK.out.rd.but.size;omega) (by rw[mH.out.2.1];omega)
    rwa [mH.out.2.1]at h1
   have xP:=QH (tq b k s);have rS:=mH.out.2.1;obtain⟨x,hx⟩:=QE ((nH b (uz b k s).2).1);rw[hx]at rS HOI;rw[hx];have HX:=QH hx;unfold snC;rw[rS];have za6:=QH rS;have cZ:xs.length=k:=HSK.out.len;have HXL:=QH cZ;have hrl:(zD (xs++List.replicate (n-k) tH)).length=n*4:=by rw[yS,List.length_append,List.length_replicate];omega
   have key:∀j,j<4→∃u,W.cell? ⟨g,k*4+j,none⟩=some u:=fun j hj=>by
    rw[HGW.out.cell (k*4+j)];have:k*4+j<(zD (xs++List.replicate (n-k) tH)).length:=by rw[hrl];omega
    exact⟨_,by rw[List.getElem?_toArray,List.getElem?_eq_getElem this]⟩
   obtain⟨u0,c0⟩:=key 0 (by omega);obtain⟨u1,c1⟩:=key 1 (by omega);obtain⟨u2,c2⟩:=key 2 (by omega);obtain⟨u3,c3⟩:=key 3 (by omega);rw[Nat.add_zero]at c0;have f0:=HGW.out.frozen (k*4);have f1:=HGW.out.frozen (k*4+1);have f2:=HGW.out.frozen (k*4+2);have f3:=HGW.out.frozen (k*4+3);have hlg:=HGW.out.lt;have q8l:k≤100:=by omega
   have s1:=HGW.out.qg (k*4) (.int .u64 (x.g.1:Int));have r1:=HRW.out.set HGW.out gH.out (by decide) (by decide) (k*4) (.int .u64 (x.g.1:Int));have s2:=s1.qg (k*4+1) (.int .u64 (x.g.2:Int));have r2:=r1.set s1 gH.out (by decide) (by decide) (k*4+1) (.int .u64 (x.g.2:Int));have s3:=s2.qg (k*4+2) (.slice (some ⟨gi,0,none⟩) b b);have r3:=r2.set s2 gH.out (by decide) (by decide) (k*4+2) (.slice (some ⟨gi,0,none⟩) b b);have s4:=s3.qg (k*4+3) (.bool x.hid);have r4:=r3.set s3 gH.out (by decide) (by decide) (k*4+3) (.bool x.hid);have kp:Kp 141 W ((((W.setCell ⟨g,k*4,none⟩ (.int .u64 (x.g.1:Int))).setCell ⟨g,k*4+1,none⟩ (.int .u64 (x.g.2:Int))).setCell ⟨g,k*4+2,none⟩ (.slice (some ⟨gi,0,none⟩) b b)).setCell ⟨g,k*4+3,none⟩ (.bool x.hid)) :=
    (((Kp.vH (k*4) _ HGW.out).trans (Kp.vH (k*4+1) _ s1)).trans (Kp.vH (k*4+2) _ s2)).trans (Kp.vH (k*4+3) _ s3)
   simp only[List.setIfInBounds_toArray]at s4;rw[tI (xs++List.replicate (n-k) tH) k (by rw[List.length_append,List.length_replicate];omega) (x,.slice (some ⟨gi,0,none⟩) b b) _ _ _ _ rfl,qiP cZ hlt]at s4;have qcB:Hid (Sn b c n g s w (k+1) (xs++[(x,.slice (some ⟨gi,0,none⟩) b b)]) ((((W.setCell ⟨g,k*4,none⟩ (.int .u64 (x.g.1:Int))).setCell ⟨g,k*4+1,none⟩ (.int .u64 (x.g.2:Int))).setCell ⟨g,k*4+2,none⟩ (.slice (some ⟨gi,0,none⟩) b b)).setCell ⟨g,k*4+3,none⟩ (.bool x.hid))):=by
    refine⟨by rw[List.length_append,cZ];rfl,?_,s4,?_,?_⟩
    ·rw[xP.out,HX.out,List.map_append,HSK.out.is];rfl
    ·intro y hy;rcases List.mem_append.1 hy with hy|hy
     ·exact uF (HIM.out y hy) kp (by decide)
     ·obtain rfl:y=(x,.slice (some ⟨gi,0,none⟩) b b):=by simpa using hy
      exact uF HOI.out kp (by decide)
    ·rw[xP.out];exact r4
   clear hq bW hgi hx key s1 s2 s3 s4 r1 r2 r3 r4 kp hrl cZ rS HSK HEK HGW HIM HRW HOI;go_wp2_with fail;go_roundw;case rel=>exact⟨k+1,_,by omega,by go_num,qcB.out⟩
   case measure=>simp[intOf];omega
  ·have yt:¬ (k:Int)<(n:Int):=by omega
   obtain rfl:k=n:=by omega
   go_wp2_with fail;go_ret;exact⟨g,xs,rfl,gH.out,HSK.out⟩
end Go.Proofs.YtdpbdkacngaemaaGreatDoor.mt.pg
namespace Go.Proofs.YtdpbdkacngaemaaGreatDoor.mt
open _root_.Go.Proofs.Tryz Go Go.RowKit ib wi
def mC (v0 v1 v2:Value)(t:Tk):Array Value:=#[v0,v1,.int .u64 (t.base.1:Int),.int .u64 (t.base.2:Int),.int .u64 (t.target.1:Int),.int .u64 (t.target.2:Int),.int .i64 t.next,.int .i64 t.all,v2]
abbrev cd:Value:=.slice none 0 0
structure DS(w W:World)(p c gm b:Nat)(s:St)(v0 v1 v2:Value)(l:List Int)(xs:List eH)(t:Tk):Prop where
 below:Below w.heap.size w W
 rs:RS W p c b s
 m:qf W gm 103 (mC v0 v1 v2 t)
 res:qf W w.heap.size 103 (mC cd cd cd yB)
 live:zg W w.heap.size v0 l
 row:wQ W w.heap.size v1 xs
 qp:zg W w.heap.size v2 t.qp
 pn:w.heap.size≤p
 cn:w.heap.size≤c
 gn:w.heap.size<gm
theorem QS.blk{w:World}{c:Nat}{s:St}(h:QS w c s):∃x,qf w c 208 x:=by
 unfold QS at h;split at h
 ·obtain⟨q,h1,_⟩:=h;exact⟨_,h1⟩
 ·obtain⟨q,_,h1,_⟩:=h;exact⟨_,h1⟩
theorem RS.kp{w w':World}{p c b:Nat}{s:St}(h:RS w p c b s)(hb:qz (Tc c) w w'):Kp 208 w w':=by
 obtain⟨x,hx⟩:=h.left.blk;exact Kp.nP hb hx
section
variable {w W W':World} {p c gm b:Nat} {s s':St} {v0 v1 v2:Value} {l:List Int} {xs:List eH} {t:Tk}
theorem DS.qyW{r:TypeId}(h:DS w W p c gm b s v0 v1 v2 l xs t)(hk:Kp r W W')(hb:Below w.heap.size w W')(hr:RS W' p c b s')(h1:103≠r)(h2:3≠r)(h3:141≠r):DS w W' p c gm b s' v0 v1 v2 l xs t :=
 ⟨hb,hr,hk _ _ _ h1 h.m,hk _ _ _ h1 h.res,uF h.live hk h2,h.row.kp hk h3 h2,uF h.qp hk h2,h.pn,h.cn,h.gn⟩
theorem DS.turn(h:DS w W p c gm b s v0 v1 v2 l xs t)(hb:qz (Tc c) W W')(hr:RS W' p c b s'):DS w W' p c gm b s' v0 v1 v2 l xs t :=
 h.qyW (h.rs.kp hb) (h.below.trans (hb.below (B:=w.heap.size) (fun i hi=>by unfold Tc at hi;rw[hi];exact h.cn) h.below.size)) hr (by decide) (by decide) (by decide)
theorem DS.qml{t':Tk}{v2':Value}(h:DS w W p c gm b s v0 v1 v2 l xs t)(k:Nat)(u:Value)(hm:(mC v0 v1 v2 t).setIfInBounds k u=mC v0 v1 v2' t')(hi:zg W w.heap.size v2' t'.qp) :
    DS w (W.setCell ⟨gm,k,none⟩ u) p c gm b s v0 v1 v2' l xs t':=by
 have hk2:=Kp.vH k u h.m;have hb2:Below w.heap.size w (W.setCell ⟨gm,k,none⟩ u):=h.below.setCell (p:=⟨gm,k,none⟩) (Nat.le_of_lt h.gn) u;obtain⟨y,hy⟩:=h.rs.left.blk;refine⟨hb2,⟨hk2 _ _ _ (by decide) h.rs.blk,h.rs.ne,h.rs.left.block (qw _ _ _ _ _ (uE hy h.m (by decide)))⟩,?_,h.res.of_block (qw _ _ _ _ _ (by have:=h.gn;omega)),uF h.live hk2 (by decide),h.row.kp hk2 (by decide) (by decide),uF hi hk2 (by decide),h.pn,h.cn,h.gn⟩;rw[← hm];exact h.m.qg k u
def xS (W:World)(gm:Nat)(v2:Value)(t:Tk):World :=
 ((((((W.setCell ⟨gm,2,none⟩ (.int .u64 (t.base.1:Int))).setCell ⟨gm,3,none⟩ (.int .u64 (t.base.2:Int))).setCell ⟨gm,4,none⟩ (.int .u64 (t.target.1:Int))).setCell ⟨gm,5,none⟩ (.int .u64 (t.target.2:Int))).setCell ⟨gm,6,none⟩ (.int .i64 t.next)).setCell ⟨gm,7,none⟩ (.int .i64 t.all)).setCell ⟨gm,8,none⟩ v2
theorem DS.tok{t':Tk}{v2':Value}(h:DS w W p c gm b s v0 v1 cd l xs yB)(hi:zg W w.heap.size v2' t'.qp):DS w (xS W gm v2' t') p c gm b s v0 v1 v2' l xs t':=by
 have go:∀(k:Nat) (u:Value) {W:World} {t t2:Tk} {v v':Value},DS w W p c gm b s v0 v1 v l xs t→zg W w.heap.size v2' t'.qp→zg W w.heap.size v' t2.qp→(mC v0 v1 v t).setIfInBounds k u=mC v0 v1 v' t2→DS w (W.setCell ⟨gm,k,none⟩ u) p c gm b s v0 v1 v' l xs t2∧zg (W.setCell ⟨gm,k,none⟩ u) w.heap.size v2' t'.qp:=fun k u {W t t2 v v'} h1 h2 h3 h4 =>
  ⟨h1.qml k u h4 h3,uF h2 (Kp.vH k u h1.m) (by decide)⟩
 obtain⟨h1,i1⟩:=go 2 (.int .u64 (t'.base.1:Int)) (t2:=⟨(t'.base.1,0),(0,0),0,0,[]⟩) (v':=cd) h hi (dE _ _) rfl;obtain⟨h2,i2⟩:=go 3 (.int .u64 (t'.base.2:Int)) (t2:=⟨t'.base,(0,0),0,0,[]⟩) (v':=cd) h1 i1 (dE _ _) rfl;obtain⟨h3,i3⟩:=go 4 (.int .u64 (t'.target.1:Int)) (t2:=⟨t'.base,(t'.target.1,0),0,0,[]⟩) (v':=cd) h2 i2 (dE _ _) rfl;obtain⟨h4,i4⟩:=go 5 (.int .u64 (t'.target.2:Int)) (t2:=⟨t'.base,t'.target,0,0,[]⟩) (v':=cd) h3 i3 (dE _ _) rfl;obtain⟨h5,i5⟩:=go 6 (.int .i64 t'.next) (t2:=⟨t'.base,t'.target,t'.next,0,[]⟩) (v':=cd) h4 i4 (dE _ _) rfl;obtain⟨h6,i6⟩:=go 7 (.int .i64 t'.all) (t2:=⟨t'.base,t'.target,t'.next,t'.all,[]⟩) (v':=cd) h5 i5 (dE _ _) rfl;exact(go 8 v2' (t2:=t') (v':=v2') h6 i6 i6 rfl).1
end
structure tJ(l:List Int)(xs:List Sp):Prop where
 live:yv l
 sn:∀x∈xs,yv x.qp∧xB x.g∧x.qp.length≤100
 nl:l.length≤100
 nx:xs.length≤100
structure eP(t:Tk):Prop where
 qp:yv t.qp
 few:t.qp.length≤100
 base:xB t.base
 target:xB t.target
 next:qD t.next
 all:qD t.all
theorem qva:eP yB:=⟨fun z hz=>absurd hz (by simp[yB]),by simp[yB],bU,bU,by unfold qD yB;simp,by unfold qD yB;simp⟩
theorem qh7{W:World}{B:Nat}{v0 v1 v2:Value}{l:List Int}{xs:List eH}{t:Tk}(h0:zg W B v0 l)(h1:wQ W B v1 xs)(h2:zg W B v2 t.qp)(hf:tJ l (xs.map (·.1)))(ht:eP t):si W (.agg (mC v0 v1 v2 t)) ⟨l,xs.map (·.1),t⟩:=by
 have i64:∀ {z:Int},0≤z∧z≤1048576→qD z:=fun h=>by unfold qD;omega
 have hsn:∀x∈xs,yv x.1.qp∧xB x.1.g:=fun x hx=>⟨(hf.sn _ (List.mem_map_of_mem hx)).1,(hf.sn _ (List.mem_map_of_mem hx)).2.1⟩;obtain⟨A0,c0,rfl,g0⟩:=qhw h0 (fun z hz=>i64 (hf.live z hz));obtain⟨A2,c2,rfl,g2⟩:=qhw h2 (fun z hz=>i64 (ht.qp z hz));obtain⟨A1,c1,rfl,g1,hr⟩:=h1.view (fun x hx' z hz=>i64 ((hsn x hx').1 z hz)) (fun x hx'=>(hsn x hx').2);exact⟨A0,A1,A2,c0,c1,c2,rfl,g0,g1,hr,g2,ht.base,ht.target,ht.next,ht.all⟩
theorem qvb{l:List Int}{xs:List Sp}{t:Tk}(hf:tJ l xs)(ht:eP t):mtS ⟨l,xs,t⟩ :=
 ⟨by have:=hf.nl;show l.length≤1000;omega,by have:=hf.nx;show xs.length≤1000;omega,fun s hs=>by have:=(hf.sn s hs).2.2;omega,by have:=ht.few;show t.qp.length≤1000;omega⟩
def xN (W:World)(g:Nat)(v0 v1 v2:Value)(t:Tk):World :=
 xS ((W.setCell ⟨g,0,none⟩ v0).setCell ⟨g,1,none⟩ v1) g v2 t
theorem tK {W:World}{g:Nat}{v0 v1 v2 u0 u1 u2:Value}{t t':Tk}(h:qf W g 103 (mC u0 u1 u2 t')):qf (xN W g v0 v1 v2 t) g 103 (mC v0 v1 v2 t):=by
 have h9:=((((((((h.qg 0 v0).qg 1 v1).qg 2 (.int .u64 (t.base.1:Int))).qg 3 (.int .u64 (t.base.2:Int))).qg 4 (.int .u64 (t.target.1:Int))).qg 5 (.int .u64 (t.target.2:Int))).qg 6 (.int .i64 t.next)).qg 7 (.int .i64 t.all)).qg 8 v2;simp only[mC,List.setIfInBounds_toArray,List.set_cons_succ,List.set_cons_zero]at h9;exact h9
theorem qcC{W:World}{g:Nat}{v0 v1 v2:Value}{t:Tk}{cs:Array Value}(h:qf W g 103 cs):Kp 103 W (xN W g v0 v1 v2 t):=by
 have go:∀(k:Nat) (u:Value) {W':World},Kp 103 W W'∧(∃cs,qf W' g 103 cs)→Kp 103 W (W'.setCell ⟨g,k,none⟩ u)∧(∃cs,qf (W'.setCell ⟨g,k,none⟩ u) g 103 cs):=fun k u W' ⟨h1,cs,h2⟩ =>
  ⟨h1.trans (Kp.vH k u h2),_,h2.qg k u⟩
 exact(go 8 v2 (go 7 _ (go 6 _ (go 5 _ (go 4 _ (go 3 _ (go 2 _ (go 1 v1 (go 0 v0 ⟨Kp.refl _ _,_,h⟩))))))))).1
theorem dK {w W:World}{B g:Nat}{v0 v1 v2:Value}{t:Tk}(h:Below B w W)(hg:B≤g):Below B w (xN W g v0 v1 v2 t) :=
 ((((((((h.setCell (p:=⟨g,0,none⟩) hg v0).setCell (p:=⟨g,1,none⟩) hg v1).setCell (p:=⟨g,2,none⟩) hg _).setCell (p:=⟨g,3,none⟩) hg _).setCell (p:=⟨g,4,none⟩) hg _).setCell (p:=⟨g,5,none⟩) hg _).setCell (p:=⟨g,6,none⟩) hg _).setCell (p:=⟨g,7,none⟩) hg _).setCell (p:=⟨g,8,none⟩) hg v2
section
variable {w W W':World} {p c gm b:Nat} {s s':St} {v0 v1 v2:Value} {l:List Int} {xs:List eH} {t:Tk}
theorem DS.at_(h:DS w W p c gm b s v0 v1 v2 l xs t)(hf:tJ l (xs.map (·.1)))(ht:eP t):si W (.agg (mC v0 v1 v2 t)) ⟨l,xs.map (·.1),t⟩:=qh7 h.live h.row h.qp hf ht
end
end Go.Proofs.YtdpbdkacngaemaaGreatDoor.mt
namespace Go.Proofs.YtdpbdkacngaemaaGreatDoor.mt.pg
open _root_.Go.Proofs.Tryz Go Go.RowKit ib wi im mt
def mZ (v0 v1:Value):Array Value:=#[v0,v1,.int .u64 0,.int .u64 0,.int .u64 0,.int .u64 0,.int .i64 0,.int .i64 0,.slice none 0 0]
structure TK(w W:World)(gR gm kb rb pb c b:Nat)(s:St)(v0 v1:Value)(l:List Int)(xs:List eH):Prop where
 rd:Rd w c s W
 env:iF W kb rb pb c b
 res:qf W gR 103 (mZ (.slice none 0 0) (.slice none 0 0))
 m:qf W gm 103 (mZ v0 v1)
 live:zg W w.heap.size v0 l
 row:wQ W w.heap.size v1 xs
 rn:w.heap.size≤gR
 gn:gR<gm
section
variable {w W W':World} {gR gm kb rb pb c b:Nat} {s s':St} {v0 v1:Value} {l:List Int} {xs:List eH}
theorem TK.next(h:TK w W gR gm kb rb pb c b s v0 v1 l xs)(hr:Rd W c s' W'):TK w W' gR gm kb rb pb c b s' v0 v1 l xs :=
 ⟨h.rd.trans hr,h.env.rd h.rd.ps.blk hr,hr.blk h.res h.rd.ps.blk (by decide),hr.blk h.m h.rd.ps.blk (by decide),uF h.live (hr.kp h.rd.ps) (by decide),h.row.kp (hr.kp h.rd.ps) (by decide) (by decide),h.rn,h.gn⟩
theorem iF.kp{kb rb pb c b:Nat}(h:iF W kb rb pb c b)(hk:Kp 103 W W'):iF W' kb rb pb c b:=⟨⟨hk _ _ _ (by decide) h.e.k,hk _ _ _ (by decide) h.e.r⟩,hk _ _ _ (by decide) h.p⟩
theorem TK.qmk{l':List Int}(h:TK w W gR gm kb rb pb c b s v0 v1 l xs)(v:Value)(hv:zg W w.heap.size v l'):TK w (W.setCell ⟨gm,0,none⟩ v) gR gm kb rb pb c b s v v1 l' xs:=by
 have hk:=Kp.vH 0 v h.m;have:=h.rn;have:=h.gn;exact⟨h.rd.set h.m (by omega) (by decide) (by decide) 0 v,h.env.kp hk,h.res.of_block (qw _ _ _ _ _ (by omega)),h.m.qg 0 v,uF hv hk (by decide),h.row.kp hk (by decide) (by decide),h.rn,h.gn⟩
theorem TK.qml{xs':List eH}(h:TK w W gR gm kb rb pb c b s v0 v1 l xs)(v:Value)(hv:wQ W w.heap.size v xs'):TK w (W.setCell ⟨gm,1,none⟩ v) gR gm kb rb pb c b s v0 v l xs':=by
 have hk:=Kp.vH 1 v h.m;have:=h.rn;have:=h.gn;exact⟨h.rd.set h.m (by omega) (by decide) (by decide) 1 v,h.env.kp hk,h.res.of_block (qw _ _ _ _ _ (by omega)),h.m.qg 1 v,uF h.live hk (by decide),hv.kp hk (by decide) (by decide),h.rn,h.gn⟩
end
theorem qqZ{w W:World}{b c n g:Nat}{s:St}{xs:List eH}{B:Nat}(h:Sn b c n g s w n xs W)(hg:B≤g)(hB:B≤w.heap.size)(hn:n≤1000):wQ W B (.slice (some ⟨g,0,none⟩) n n) xs:=by
 have hr:=h.row;rw[Nat.sub_self,List.replicate_zero,List.append_nil]at hr;have hl:=h.len;refine⟨⟨by rw[yS],.inr ⟨g,n,(zD xs).toArray,by rw[hl],hg,hr,by omega,by unfold maxLen;omega,by rw[List.size_toArray,yS,hl],?_⟩⟩,fun x hx=>nO (h.qp x hx) hB⟩;rw[List.take_of_length_le (by rw[yS];omega)]
theorem qiQ{a W:World}{c gm:Nat}{s:St}{cs:Array Value}{v:Value}{t:Tk}(h:Rd a c s W)(hm:qf W gm 103 cs)(hn:a.heap.size≤gm):Rd a c s (xS W gm v t):=by
 have go:∀(k:Nat) (u:Value) {W':World},(Rd a c s W'∧∃cs,qf W' gm 103 cs)→(Rd a c s (W'.setCell ⟨gm,k,none⟩ u)∧∃cs,qf (W'.setCell ⟨gm,k,none⟩ u) gm 103 cs):=fun k u W' ⟨h1,cs,h2⟩=>⟨h1.set h2 hn (by decide) (by decide) k u,_,h2.qg k u⟩;exact(go 8 v (go 7 _ (go 6 _ (go 5 _ (go 4 _ (go 3 _ (go 2 _ ⟨h,cs,hm⟩))))))).1
theorem qiR{W:World}{g:Nat}{v:Value}{t:Tk}{cs:Array Value}(h:qf W g 103 cs):Kp 103 W (xS W g v t):=by
 have go:∀(k:Nat) (u:Value) {W':World},Kp 103 W W'∧(∃cs,qf W' g 103 cs)→Kp 103 W (W'.setCell ⟨g,k,none⟩ u)∧(∃cs,qf (W'.setCell ⟨g,k,none⟩ u) g 103 cs):=fun k u W' ⟨h1,cs,h2⟩ =>
  ⟨h1.trans (Kp.vH k u h2),_,h2.qg k u⟩
 exact(go 8 v (go 7 _ (go 6 _ (go 5 _ (go 4 _ (go 3 _ (go 2 _ ⟨Kp.refl _ _,_,h⟩))))))).1
theorem cf {W:World}{g:Nat}{v0 v1 v:Value}{t:Tk}(h:qf W g 103 (mZ v0 v1)):qf (xS W g v t) g 103 (mC v0 v1 v t):=by
 have h9:=((((((h.qg 2 (.int .u64 (t.base.1:Int))).qg 3 (.int .u64 (t.base.2:Int))).qg 4 (.int .u64 (t.target.1:Int))).qg 5 (.int .u64 (t.target.2:Int))).qg 6 (.int .i64 t.next)).qg 7 (.int .i64 t.all)).qg 8 v;simp only[mZ,List.setIfInBounds_toArray,List.set_cons_succ,List.set_cons_zero]at h9;exact h9
theorem qfv{W:World}{g j:Nat}{v:Value}{t:Tk}(hj:j≠g):(xS W g v t).heap[j]?=W.heap[j]? :=by
 unfold xS;rw[qw _ _ _ _ _ hj,qw _ _ _ _ _ hj,qw _ _ _ _ _ hj,qw _ _ _ _ _ hj,qw _ _ _ _ _ hj,qw _ _ _ _ _ hj,qw _ _ _ _ _ hj]
structure Fin(w W:World)(gR gm c:Nat)(v0 v1 v2:Value)(m:Mt):Prop where
 but:qz (Tc c) w W
 res:qf W gR 103 (mZ (.slice none 0 0) (.slice none 0 0))
 mm:qf W gm 103 (mC v0 v1 v2 m.tok)
 at_:∃xs,zg W w.heap.size v0 m.live∧wQ W w.heap.size v1 xs∧zg W w.heap.size v2 m.tok.qp∧xs.map (·.1)=m.qc
 ok:tJ m.live m.qc∧eP m.tok
 rn:w.heap.size≤gR
structure Own(w:World)(B:Nat)(v0 v1 v2:Value)(m:Mt):Prop where
 at_:∃xs,zg w B v0 m.live∧wQ w B v1 xs∧zg w B v2 m.tok.qp∧xs.map (·.1)=m.qc
 ok:tJ m.live m.qc∧eP m.tok
theorem Own.kp{w w':World}{B:Nat}{v0 v1 v2:Value}{m:Mt}{r:TypeId}(h:Own w B v0 v1 v2 m)(hk:Kp r w w')(h1:141≠r)(h2:3≠r):Own w' B v0 v1 v2 m:=by
 obtain⟨xs,a,b,c,d⟩:=h.at_;exact⟨⟨xs,uF a hk h2,b.kp hk h1 h2,uF c hk h2,d⟩,h.ok⟩
theorem Own.mt{w:World}{B:Nat}{v0 v1 v2:Value}{m:Mt}(h:Own w B v0 v1 v2 m):si w (.agg (mC v0 v1 v2 m.tok)) m:=by
 obtain⟨xs,a,b,c,d⟩:=h.at_;have:=qh7 a b c (by rw[d];exact h.ok.1) h.ok.2;rw[d]at this;exact this
def qtl (c:Nat)(s:St)(w:World)(e:Ending)(w':World):Prop:=∃v0 v1 v2,e=.returned (.agg (mC v0 v1 v2 (mP s).tok))∧Own w' w.heap.size v0 v1 v2 (mP s)∧qz (Tc c) w w'
theorem Fin.done{w W:World}{gR gm c:Nat}{v0 v1 v2:Value}{m:Mt}(h:Fin w W gR gm c v0 v1 v2 m):qf (xN W gR v0 v1 v2 m.tok) gR 103 (mC v0 v1 v2 m.tok)∧Own (xN W gR v0 v1 v2 m.tok) w.heap.size v0 v1 v2 m∧qz (Tc c) w (xN W gR v0 v1 v2 m.tok):=by
 have hk:=qcC (v0:=v0) (v1:=v1) (v2:=v2) (t:=m.tok) h.res;obtain⟨xs,h1,h2,h3,h4⟩:=h.at_;have hr:qf W gR 103 (mC cd cd cd yB):=h.res;have ha:Own (xN W gR v0 v1 v2 m.tok) w.heap.size v0 v1 v2 m:=Own.kp ⟨h.at_,h.ok⟩ hk (by decide) (by decide);have hb:qz (Tc c) w (xN W gR v0 v1 v2 m.tok):=by
  have go:∀(k:Nat) (u:Value) {W':World},qz (Tc c) w W'→qz (Tc c) w (W'.setCell ⟨gR,k,none⟩ u):=fun k u W' h1=>h1.setCell _ _ (.inr h.rn);exact go 8 _ (go 7 _ (go 6 _ (go 5 _ (go 4 _ (go 3 _ (go 2 _ (go 1 _ (go 0 _ h.but))))))))
 exact⟨tK hr,ha,hb⟩
theorem qh8{W:World}{g:Nat}{v0 v1 v2:Value}{t:Tk}(h:qf W g 103 (mC v0 v1 v2 t)):(loadVar 103 ⟨g,0,none⟩).run prog W=.ok (.agg (mC v0 v1 v2 t)) W :=
 run_loadVar_row W g 103 103 _ (0,0) _ h underlying103 rfl (by kernel_rfl)
theorem qmH{W:World}{g:Nat}{v0 v1 v2:Value}{t:Tk}(h:qf W g 103 (mC v0 v1 v2 t))(tm:Array Value)(hp:tm.getD 2 undef=.pointer (some ⟨g,0,none⟩)) :
    (results Tryz.f124 tm).run prog W=.ok (.agg (mC v0 v1 v2 t)) W:=by
 have hl:=qh8 h;generalize mC v0 v1 v2 t=X at *;exact zf results124 tm _ _ ⟨g,0,none⟩ _ hp hl
theorem qcD{w WE:World}{gR c:Nat}{s:St}{v0 v1 v2:Value}{m:Mt}(a:Act)(ha:a.defers=[])(hp:a.tmps.getD 2 undef=.pointer (some ⟨gR,0,none⟩))(hm:mP s=m)
    (h:qf WE gR 103 (mC v0 v1 v2 m.tok)∧Own WE w.heap.size v0 v1 v2 m∧qz (Tc c) w WE):bodyPost prog Tryz.f124 (qtl c s w) .ret a WE :=
 bodyPost_ret (qmH h.1 a.tmps hp) ha ⟨v0,v1,v2,by rw[hm],by rw[hm];exact h.2.1,h.2.2⟩
theorem kL {w:World}{c:Nat}{s:St}(h:PS w c s):Calls prog 124 #[ptr c] w (qtl c s w):=by
 have HP0:=QH h;have hb1:=(Below.refl w.heap.size w).alloc (Nat.le_refl _) (.cells #[ptr c] 198);have hr1:Rd w c s (w.alloc (.cells #[ptr c] 198)):=⟨qz.of_below hb1,h.below hb1⟩;have ha1:=qf.new w 198 #[ptr c];obtain⟨W1,hW1⟩:=QE (w.alloc (.cells #[ptr c] 198));rw[hW1]at hr1 ha1 hb1;have hb2:=(Below.refl W1.heap.size W1).alloc (Nat.le_refl _) (.cells (mZ (.slice none 0 0) (.slice none 0 0)) 103);have hr2:=hr1.new hb2;have ha2:=qf.new W1 103 (mZ (.slice none 0 0) (.slice none 0 0));obtain⟨W2,hW2⟩:=QE (W1.alloc (.cells (mZ (.slice none 0 0) (.slice none 0 0)) 103));rw[hW2]at hr2 ha2 hb2;have jM:=QH hr2;have qA:=QH (ha1.below hb2);have wb:=QH ha2;have HRN:Hid (w.heap.size≤W1.heap.size):=hb1.size;obtain⟨gR,hgR⟩:=QE W1.heap.size;rw[hgR]at wb HRN;obtain⟨rb,hrb⟩:=QE w.heap.size;have HRB:=QH hrb;have hB2:=qA.out;rw[hrb]at hB2;have HX2:=QH hB2;have r0:=hB2.cell 0;simp only[QA,QB,QC]at r0;have hlr:=hB2.lt;clear h hb1 hr1 ha1 hb2 hr2 ha2 hB2 qA;unfold mZ at hW2;go_enter func124,ntmps124;go_upto_region 1 with fail;try rw[hrb]
 try rw[hW1]
 try rw[hW2]
 try rw[hgR]
 clear hW1 hW2 hgR hrb;go_wp2_with fail;refine(dG jM.out.ps 8 8 rfl (by omega)).mono ?_;rintro e W3 ⟨rfl,hq⟩;have qvc:=jM.out.trans hq;have hA3:=hq.blk wb.out jM.out.ps.blk (by decide);have hX3:=hq.blk HX2.out jM.out.ps.blk (by decide);clear hq wb HX2 r0 hlr jM;have hbb:=iy 8 s;obtain⟨b,hbE⟩:=QE ((kP 8 s).1);rw[hbE]at hbb ⊢;have bG:=QH hbE;obtain⟨s1,hs1⟩:=QE ((kP 8 s).2);rw[hs1]at qvc;have bY:=QH hs1;have bH:=QH hbb;clear hs1 hbE hbb;have hb4:=(Below.refl W3.heap.size W3).alloc (Nat.le_refl _) (.cells #[.int .i64 (b:Int)] 3);have hK4:=qf.new W3 3 #[.int .i64 (b:Int)];obtain⟨W4,ie⟩:=QE (W3.alloc (.cells #[.int .i64 (b:Int)] 3));rw[ie]at hb4 hK4;obtain⟨kb,hkb⟩:=QE W3.heap.size;rw[hkb]at hK4;have qyX:=QH (qvc.new hb4);have mI:=QH (hA3.below hb4);have HX4:=QH (hX3.below hb4);have ed:=QH hK4;clear qvc hA3 hX3 hb4 hK4;go_upto_region 2 with fail;try rw[hkb]
 try rw[ie]
 clear ie hkb;have hb5:=(Below.refl W4.heap.size W4).alloc (Nat.le_refl _) (.cells #[plF kb rb] 211);have hP5:=qf.new W4 211 #[plF kb rb];obtain⟨W5,ic⟩:=QE (W4.alloc (.cells #[plF kb rb] 211));rw[ic]at hb5 hP5;obtain⟨pb,hpb⟩:=QE W4.heap.size;rw[hpb]at hP5;have qyY:=QH (qyX.out.new hb5);have HA5:=QH (mI.out.below hb5);have HE5:Hid (iF W5 kb rb pb c b):=⟨⟨ed.out.below hb5,HX4.out.below hb5⟩,hP5⟩;clear qyX mI HX4 ed hb5 hP5;go_upto_region 3 with fail;try rw[hpb]
 try rw[ic]
 clear ic hpb;have vg:=(Below.refl W5.heap.size W5).alloc (Nat.le_refl _) (.cells (mZ (.slice none 0 0) (.slice none 0 0)) 103);have hM6:=qf.new W5 103 (mZ (.slice none 0 0) (.slice none 0 0));obtain⟨W6,hW6⟩:=QE (W5.alloc (.cells (mZ (.slice none 0 0) (.slice none 0 0)) 103));rw[hW6]at vg hM6;have HGN:Hid (gR<W5.heap.size):=HA5.out.lt;obtain⟨gm,hgm⟩:=QE W5.heap.size;rw[hgm]at hM6 HGN;have iD:Hid (TK w W6 gR gm kb rb pb c b s1 (.slice none 0 0) (.slice none 0 0) [] []):=⟨qyY.out.new vg,HE5.out.below vg,HA5.out.below vg,hM6,dE _ _,wQ.nil _ _,HRN.out,HGN.out⟩;clear qyY HA5 HE5 vg hM6;unfold mZ at hW6;go_upto_region 4 with fail;try rw[hgm]
 try rw[hW6]
 clear hW6 hgm;have p0:=iD.out.env.p.cell 0;simp only[QA,QB,QC]at p0;have hlp:=iD.out.env.p.lt;go_wp2_with fail;refine(uG (by have:=bH.out;omega) iD.out.rd.ps iD.out.env.e.k iD.out.env.e.r).mono ?_;rintro e W7 ⟨g0,rfl,hg0,qza,hq⟩;have HT7:=QH (iD.out.next hq);have hv:=qm4 (B:=w.heap.size) qza (by have:=iD.out.rd.but.size;omega) (by rw[ud];have:=bH.out;omega);rw[ud]at hv;have nQ:=QH hv;clear hq hv hg0 qza p0 hlp iD;have bp:Hid (gV b s1=lH s):=by unfold Hid lH;rw[bG.out,bY.out]
 obtain⟨ls,hls⟩:=QE (gV b s1);rw[hls]at HT7 nQ bp;clear hls;obtain⟨l,hl⟩:=QE ls.1;rw[hl]at nQ;have tL:=QH hl;clear hl;have q0:=HT7.out.m.cell 0;simp only[mZ,QA,QB,QC]at q0;have f0:=HT7.out.m.frozen 0;have hlm:=HT7.out.m.lt;have HT8:=QH (HT7.out.qmk (.slice (some ⟨g0,0,none⟩) b b) nQ.out);obtain⟨W8,rR⟩:=QE (W7.setCell ⟨gm,0,none⟩ (.slice (some ⟨g0,0,none⟩) b b));rw[rR]at HT8;clear HT7 nQ;go_upto_region 5 with fail;try rw[rR]
 clear rR q0 f0 hlm;have r0:=HT8.out.env.e.r.cell 0;simp only[QA,QB,QC]at r0;have hlr:=HT8.out.env.e.r.lt;go_wp2_with fail;refine(dG HT8.out.rd.ps 20 20 rfl (by omega)).mono ?_;rintro e W9 ⟨rfl,hq⟩;have HT9:=QH (HT8.out.next hq);clear hq r0 hlr HT8;have hnb:=iy 20 ls.2;obtain⟨n,hnE⟩:=QE ((kP 20 ls.2).1);rw[hnE]at hnb ⊢;have HNE:=QH hnE;have HNB:=QH hnb;clear hnE hnb;go_wp2_with fail;refine(qqX n (by have:=HNB.out;omega) (by have:=bH.out;omega) HT9.out.rd.ps HT9.out.env).mono ?_;rintro e W10 ⟨gs,xs,rfl,hgs,hsn⟩;have sx:=QH (HT9.out.next hsn.rd);have HW9:Hid (w.heap.size≤W9.heap.size):=HT9.out.rd.but.size;have HV1:=QH (qqZ (B:=w.heap.size) hsn (by have:=HW9.out;omega) HW9.out (by have:=HNB.out;omega));have HSE:Hid (xs.map (·.1)=(uz b n (kP 20 ls.2).2).1):=hsn.is;have HXL:Hid (xs.length=n):=hsn.len;clear hsn hgs HT9;have bZ:Hid (uz b n (kP 20 ls.2).2=qeM s):=by unfold Hid qeM;rw[bG.out,← bp.out,HNE.out]
 obtain⟨ss,hss⟩:=QE (uz b n (kP 20 ls.2).2);rw[hss]at sx HSE bZ;have HSO:Hid (∀x∈ss.1,yv x.qp∧x.qp.length=b∧xB x.g):=by rw[← hss];exact qaB _ _ _
 clear hss;have q1:=sx.out.m.cell 1;simp only[mZ,QA,QB,QC]at q1;have f1:=sx.out.m.frozen 1;have hlm:=sx.out.m.lt;have iE:=QH (sx.out.qml (.slice (some ⟨gs,0,none⟩) n n) HV1.out);obtain⟨W11,qvf⟩:=QE (W10.setCell ⟨gm,1,none⟩ (.slice (some ⟨gs,0,none⟩) n n));rw[qvf]at iE;clear sx HV1;go_upto_region 6 with fail;try rw[qvf]
 clear qvf q1 f1 hlm;have r0:=iE.out.env.e.r.cell 0;simp only[QA,QB,QC]at r0;have hlr:=iE.out.env.e.r.lt;go_wp2_with fail;refine(dF iE.out.rd.ps).mono ?_;rintro e W12 ⟨rfl,hq⟩;have vL:=QH (iE.out.next hq);clear hq r0 hlr iE;have lR:Hid (tJ l ss.1):=by
  have hl1:l.length=b∧yv l:=by
   rw[← tL.out,bp.out];unfold lH;rw[bG.out];exact⟨ud _ _,qaA _ _⟩
  refine⟨hl1.2,fun x hx=>⟨(HSO.out x hx).1,(HSO.out x hx).2.2,by have:=(HSO.out x hx).2.1;have:=bH.out;omega⟩,by have:=bH.out;omega,?_⟩;rw[← HSE.out,List.length_map,HXL.out];have:=HNB.out;omega
 have HMP:Hid (mP s=⟨l,ss.1,if (zX ss.2).1=1 then(sg b (zX ss.2).2).1 else yB⟩):=by unfold Hid mP;rw[← bp.out,← bZ.out,bG.out,tL.out]
 obtain⟨fl,gW⟩:=QE ((zX ss.2).1);rw[gW]at HMP ⊢;obtain⟨s3,hs3⟩:=QE ((zX ss.2).2);rw[hs3]at HMP vL;clear gW hs3 HSO bZ bp;by_cases h1:fl=1
 ·have hq:((fl:Int) == 1)=true:=by rw[h1];rfl
  have nc:Hid (mP s=⟨l,ss.1,(sg b s3).1⟩):=by unfold Hid;rw[HMP.out,if_pos h1]
  clear h1 HMP;have r0:=vL.out.env.e.r.cell 0;simp only[QA,QB,QC]at r0;have hlr:=vL.out.env.e.r.lt;have p0:=vL.out.env.p.cell 0;simp only[QA,QB,QC]at p0;have hlp:=vL.out.env.p.lt;go_wp2_with fail;refine(iB (by have:=bH.out;omega) vL.out.rd.ps vL.out.env.e).mono ?_;rintro e W13 ⟨gt,rfl,hgt,qzb,hq⟩;have ue:=QH (vL.out.next hq);have HTL:Hid ((sg b s3).1.qp.length=b∧yv (sg b s3).1.qp∧(sg b s3).1.next≤9∧0≤(sg b s3).1.next∧(sg b s3).1.all≤9∧0≤(sg b s3).1.all):=by
   have e1:=iy 8 (kS (kS s3).2).2;have e2:=iy 8 (kP 8 (kS (kS s3).2).2).2;exact⟨ud _ _,qaA _ _,by show((kP 8 (kS (kS s3).2).2).1:Int)≤9;omega,by show(0:Int)≤((kP 8 (kS (kS s3).2).2).1:Int);omega,by show((kP 8 (kP 8 (kS (kS s3).2).2).2).1:Int)≤9;omega,by show(0:Int)≤((kP 8 (kP 8 (kS (kS s3).2).2).2).1:Int);omega⟩
  have HTB:=QH (qlS b s3);have hv:=qm4 (B:=w.heap.size) qzb (by have:=vL.out.rd.but.size;omega) (by rw[HTL.out.1];have:=bH.out;omega);rw[HTL.out.1]at hv;obtain⟨t,ht⟩:=QE ((sg b s3).1);rw[ht]at hv HTL HTB nc;unfold dm;rw[ht,HTL.out.1];have HV2:=QH hv;clear hq hv hgt qzb r0 hlr p0 hlp vL ht;have wT:=ue.out.m;have m2:=wT.cell 2;have m3:=wT.cell 3;have m4:=wT.cell 4;have m5:=wT.cell 5;have m6:=wT.cell 6;have m7:=wT.cell 7;have m8:=wT.cell 8;simp only[mZ,QA,QB,QC]at m2 m3 m4 m5 m6 m7 m8;have f2:=wT.frozen 2;have f3:=wT.frozen 3;have f4:=wT.frozen 4;have f5:=wT.frozen 5;have f6:=wT.frozen 6;have f7:=wT.frozen 7;have f8:=wT.frozen 8;have hlm:=wT.lt;have hk:=qiR (v:=.slice (some ⟨gt,0,none⟩) b b) (t:=t) wT;have HF:Hid (Fin w (xS W13 gm (.slice (some ⟨gt,0,none⟩) b b) t) gR gm c (.slice (some ⟨g0,0,none⟩) b b) (.slice (some ⟨gs,0,none⟩) n n) (.slice (some ⟨gt,0,none⟩) b b) ⟨l,ss.1,t⟩) :=
   ⟨(qiQ ue.out.rd wT (by have:=ue.out.rn;have:=ue.out.gn;omega)).but,ue.out.res.of_block (qfv (by have:=ue.out.gn;omega)),cf wT,
    ⟨xs,uF ue.out.live hk (by decide),ue.out.row.kp hk (by decide) (by decide),uF HV2.out hk (by decide),HSE.out⟩,
    ⟨lR.out,⟨HTL.out.2.1,by show t.qp.length≤100;have:=HTL.out.1;have:=bH.out;omega,HTB.out.1,HTB.out.2,by show qD t.next;unfold qD;have:=HTL.out;omega,by show qD t.all;unfold qD;have:=HTL.out;omega⟩⟩,ue.out.rn⟩
  obtain⟨W14,mG⟩:=QE (xS W13 gm (.slice (some ⟨gt,0,none⟩) b b) t);rw[mG]at HF;unfold xS at mG;clear ue HV2 hk wT;go_upto_region 8 with fail;try rw[mG]
  clear mG m2 m3 m4 m5 m6 m7 m8 f2 f3 f4 f5 f6 f7 f8 hlm;have m0:=HF.out.mm.cell 0;have m1:=HF.out.mm.cell 1;have m2:=HF.out.mm.cell 2;have m3:=HF.out.mm.cell 3;have m4:=HF.out.mm.cell 4;have m5:=HF.out.mm.cell 5;have m6:=HF.out.mm.cell 6;have m7:=HF.out.mm.cell 7;have m8:=HF.out.mm.cell 8;have a0:=HF.out.res.cell 0;have a1:=HF.out.res.cell 1;have a2:=HF.out.res.cell 2;have a3:=HF.out.res.cell 3;have a4:=HF.out.res.cell 4;have a5:=HF.out.res.cell 5;have a6:=HF.out.res.cell 6;have a7:=HF.out.res.cell 7;have a8:=HF.out.res.cell 8;simp only[mC,mZ,QA,QB,QC]at m0 m1 m2 m3 m4 m5 m6 m7 m8 a0 a1 a2 a3 a4 a5 a6 a7 a8;have f0:=HF.out.res.frozen 0;have f1:=HF.out.res.frozen 1;have f2:=HF.out.res.frozen 2;have f3:=HF.out.res.frozen 3;have f4:=HF.out.res.frozen 4;have f5:=HF.out.res.frozen 5;have f6:=HF.out.res.frozen 6;have f7:=HF.out.res.frozen 7;have f8:=HF.out.res.frozen 8;have hlm:=HF.out.mm.lt;have bn:=HF.out.res.lt;have HD:=QH HF.out.done;go_wp2_with fail;show bodyPost _ _ _ _ _ (xN W14 gR (.slice (some ⟨g0,0,none⟩) b b) (.slice (some ⟨gs,0,none⟩) n n) (.slice (some ⟨gt,0,none⟩) b b) t);obtain⟨WE,nd⟩:=QE (xN W14 gR (.slice (some ⟨g0,0,none⟩) b b) (.slice (some ⟨gs,0,none⟩) n n) (.slice (some ⟨gt,0,none⟩) b b) t);have HD2:=HD.out;try dsimp only at HD2
  rw[nd]at HD2 ⊢;have HD3:=QH HD2;clear HD2 nd HD m0 m1 m2 m3 m4 m5 m6 m7 m8 a0 a1 a2 a3 a4 a5 a6 a7 a8 f0 f1 f2 f3 f4 f5 f6 f7 f8;exact qcD (gR:=gR) (v0:=.slice (some ⟨g0,0,none⟩) b b) (v1:=.slice (some ⟨gs,0,none⟩) n n) (v2:=(.slice (some ⟨gt,0,none⟩) b b)) (m:=⟨l,ss.1,t⟩) _ rfl (by simp) nc.out HD3.out
 ·have hq:((fl:Int) == 1)=false:=by simp;omega
  have nc:Hid (mP s=⟨l,ss.1,yB⟩):=by unfold Hid;rw[HMP.out,if_neg h1]
  clear h1 HMP;have HF:Hid (Fin w W12 gR gm c (.slice (some ⟨g0,0,none⟩) b b) (.slice (some ⟨gs,0,none⟩) n n) (.slice none 0 0) ⟨l,ss.1,yB⟩) :=
   ⟨vL.out.rd.but,vL.out.res,vL.out.m,⟨xs,vL.out.live,vL.out.row,dE _ _,HSE.out⟩,⟨lR.out,qva⟩,vL.out.rn⟩
  go_upto_region 8 with fail;have m0:=HF.out.mm.cell 0;have m1:=HF.out.mm.cell 1;have m2:=HF.out.mm.cell 2;have m3:=HF.out.mm.cell 3;have m4:=HF.out.mm.cell 4;have m5:=HF.out.mm.cell 5;have m6:=HF.out.mm.cell 6;have m7:=HF.out.mm.cell 7;have m8:=HF.out.mm.cell 8;have a0:=HF.out.res.cell 0;have a1:=HF.out.res.cell 1;have a2:=HF.out.res.cell 2;have a3:=HF.out.res.cell 3;have a4:=HF.out.res.cell 4;have a5:=HF.out.res.cell 5;have a6:=HF.out.res.cell 6;have a7:=HF.out.res.cell 7;have a8:=HF.out.res.cell 8;simp only[mC,mZ,QA,QB,QC]at m0 m1 m2 m3 m4 m5 m6 m7 m8 a0 a1 a2 a3 a4 a5 a6 a7 a8;have f0:=HF.out.res.frozen 0;have f1:=HF.out.res.frozen 1;have f2:=HF.out.res.frozen 2;have f3:=HF.out.res.frozen 3;have f4:=HF.out.res.frozen 4;have f5:=HF.out.res.frozen 5;have f6:=HF.out.res.frozen 6;have f7:=HF.out.res.frozen 7;have f8:=HF.out.res.frozen 8;have hlm:=HF.out.mm.lt;have bn:=HF.out.res.lt;have HD:=QH HF.out.done;go_wp2_with fail;show bodyPost _ _ _ _ _ (xN W12 gR (.slice (some ⟨g0,0,none⟩) b b) (.slice (some ⟨gs,0,none⟩) n n) (.slice none 0 0) yB);obtain⟨WE,nd⟩:=QE (xN W12 gR (.slice (some ⟨g0,0,none⟩) b b) (.slice (some ⟨gs,0,none⟩) n n) (.slice none 0 0) yB);have HD2:=HD.out;try dsimp only at HD2
  rw[nd]at HD2 ⊢;have HD3:=QH HD2;clear HD2 nd HD m0 m1 m2 m3 m4 m5 m6 m7 m8 a0 a1 a2 a3 a4 a5 a6 a7 a8 f0 f1 f2 f3 f4 f5 f6 f7 f8;exact qcD (gR:=gR) (v0:=.slice (some ⟨g0,0,none⟩) b b) (v1:=.slice (some ⟨gs,0,none⟩) n n) (v2:=(.slice none 0 0)) (m:=⟨l,ss.1,yB⟩) _ rfl (by simp) nc.out HD3.out
end Go.Proofs.YtdpbdkacngaemaaGreatDoor.mt.pg
namespace Go.Proofs.YtdpbdkacngaemaaGreatDoor.mt.pg
open _root_.Go.Proofs.Tryz Go Go.RowKit ib wi mt
def qra (r:List UInt8)(w:World)(e:Ending)(w':World):Prop:=e=.returned (.string (str r))∧Below w.heap.size w w'
def qzc (L:List UInt8)(l:List Int)(w:World)(v x i:Value)(wr:World):Prop :=
 ∃k:Nat,k≤l.length∧i=.int .i64 (k:Int)∧v=.string (str (L++zq (l.take k)))∧Below w.heap.size w wr
theorem qfx(l:List Int)(k:Nat)(h:k<l.length):zq (l.take (k+1))=zq (l.take k)++xI l[k]:=by
 unfold zq;rw[List.take_succ_eq_append_getElem h,List.flatMap_append];simp
theorem qx (n:Nat):(zu n).length≤9:=by
 unfold zu;have:=jJ n;simp only[List.length_cons];omega
theorem jB:∀l:List Int,(zq l).length≤9*l.length
 | []=>by simp[zq]
 | z::l=>by
  have h1:=qx z.toNat;have h2:=jB l;simp only[zq,List.flatMap_cons,List.length_append,List.length_cons,xI]at h2 ⊢;omega
theorem uf (L:List UInt8)(A:Option Addr)(c:Nat)(l:List Int)(w:World)(hl:qI w A l)(h0:∀z∈l,0≤z)(hs:L.length≤100000)(h1:l.length≤1000) :
    Calls prog 245 #[.string (str L),.slice A l.length c] w (qra (L++zq l) w):=by
 have HL:=QH hl;have HN:=QH h0;have HS:=QH hs;have HI0:Hid (str L=str (L++zq (l.take 0))):=by unfold Hid;simp[zq]
 clear hl h0 hs;obtain⟨P0,hP0⟩:=QE (str L);rw[hP0]at HI0 ⊢;clear hP0;go_enter func245,ntmps245;go_wp2_with fail;go_loopw [0,6,9] (fun v x i wr=>qzc L l w v x i wr) (fun _ _ i _=>l.length-(intOf i).toNat);case atStart=>exact⟨0,Nat.zero_le _,rfl,by rw[HI0.out],Below.refl _ _⟩
 case round =>
  obtain⟨k,hk,rfl,rfl,hb⟩:=hrel;have HB:=QH hb;clear hb;by_cases hlt:k<l.length
  ·have yt:(k:Int)<(l.length:Int):=by omega
   obtain⟨b,o,rfl,hbl,hc,hz⟩:=HL.out k hlt;have hz0:=HN.out l[k] (List.getElem_mem hlt);have xP:=QH (qfx l k hlt);have vI:=QH (jB (l.take k));have e0:wr.cell? ⟨b,o+k,none⟩=some (.int .i64 l[k]):=by rw[HB.out.cell (p:=⟨b,o+k,none⟩) hbl];exact hc
   have l0:b<wr.heap.size:=Nat.lt_of_lt_of_le hbl HB.out.size;clear hc hbl;obtain⟨u,hu⟩:∃u:Nat,l[k]=(u:Int):=⟨l[k].toNat,by omega⟩;rw[hu]at e0;have za7:(u:Int)≤9223372036854775807:=by rw[← hu];exact hz.2
   have HU:=QH hu;obtain⟨P,hP⟩:=QE (str (L++zq (l.take k)));have hPs:P.size≤140737488355000:=by
    rw[← hP,qN,List.length_append];have:=vI.out;have:=HS.out;simp at *;omega
   have HP:=QH hP;have rT:=QH hPs;rw[hP];clear hP hPs hu hz hz0;go_wp2_with fail;refine(ke P u wr (by omega) rT.out).mono ?_;rintro e w' ⟨rfl,hb'⟩;have HB':=QH (qa HB.out hb');clear hb';go_wp2_with fail;go_roundw;case rel =>
    refine⟨k+1,by omega,by go_num,?_,HB'.out⟩;rw[xP.out,HU.out,← HP.out,zw,List.append_assoc];rfl
   case measure=>simp[intOf];omega
  ·have yt:¬ (k:Int)<(l.length:Int):=by omega
   obtain rfl:k=l.length:=by omega
   rw[List.take_length];go_wp2_with fail;go_ret;exact⟨rfl,HB.out⟩
def qmJ (w:World)(a:Option Addr)(l:List Nat):Prop :=
 ∀i (h:i<l.length),∃b o,a=some ⟨b,o,none⟩∧b<w.heap.size∧w.cell? ⟨b,o+i,none⟩=some (.int .u64 (l[i]:Int))∧l[i]<18446744073709551616
def wh (l:List Nat):List UInt8:=l.flatMap zu
theorem qfy(l:List Nat)(k:Nat)(h:k<l.length):wh (l.take (k+1))=wh (l.take k)++zu l[k]:=by
 unfold wh;rw[List.take_succ_eq_append_getElem h,List.flatMap_append];simp
theorem tM:∀l:List Nat,(wh l).length≤9*l.length
 | []=>by simp[wh]
 | z::l=>by
  have h1:=qx z;have h2:=tM l;simp only[wh,List.flatMap_cons,List.length_append,List.length_cons]at h2 ⊢;omega
def qzf (L:List UInt8)(l:List Nat)(w:World)(v x i:Value)(wr:World):Prop :=
 ∃k:Nat,k≤l.length∧i=.int .i64 (k:Int)∧v=.string (str (L++wh (l.take k)))∧Below w.heap.size w wr
theorem qcF(L:List UInt8)(A:Option Addr)(c:Nat)(l:List Nat)(w:World)(hl:qmJ w A l)(hs:L.length≤100000)(h1:l.length≤1000) :
    Calls prog 246 #[.string (str L),.slice A l.length c] w (qra (L++wh l) w):=by
 have HL:=QH hl;have HS:=QH hs;have HI0:Hid (str L=str (L++wh (l.take 0))):=by unfold Hid;simp[wh]
 clear hl hs;obtain⟨P0,hP0⟩:=QE (str L);rw[hP0]at HI0 ⊢;clear hP0;go_enter func246,ntmps246;go_wp2_with fail;go_loopw [0,6,9] (fun v x i wr=>qzf L l w v x i wr) (fun _ _ i _=>l.length-(intOf i).toNat);case atStart=>exact⟨0,Nat.zero_le _,rfl,by rw[HI0.out],Below.refl _ _⟩
 case round =>
  obtain⟨k,hk,rfl,rfl,hb⟩:=hrel;have HB:=QH hb;clear hb;by_cases hlt:k<l.length
  ·have yt:(k:Int)<(l.length:Int):=by omega
   obtain⟨b,o,rfl,hbl,hc,hz⟩:=HL.out k hlt;have xP:=QH (qfy l k hlt);have vI:=QH (tM (l.take k));have e0:wr.cell? ⟨b,o+k,none⟩=some (.int .u64 (l[k]:Int)):=by rw[HB.out.cell (p:=⟨b,o+k,none⟩) hbl];exact hc
   have l0:b<wr.heap.size:=Nat.lt_of_lt_of_le hbl HB.out.size;clear hc hbl;obtain⟨u,hu⟩:=QE (l[k]:Nat);rw[hu]at e0 hz;have HU:=QH hu;have HZ:=QH hz;obtain⟨P,hP⟩:=QE (str (L++wh (l.take k)));have hPs:P.size≤140737488355000:=by
    rw[← hP,qN,List.length_append];have:=vI.out;have:=HS.out;simp at *;omega
   have HP:=QH hP;have rT:=QH hPs;rw[hP];clear hP hPs hu hz;go_wp2_with fail;refine(ke P u wr HZ.out rT.out).mono ?_;rintro e w' ⟨rfl,hb'⟩;have HB':=QH (qa HB.out hb');clear hb';go_wp2_with fail;go_roundw;case rel =>
    refine⟨k+1,by omega,by go_num,?_,HB'.out⟩;rw[xP.out,HU.out,← HP.out,zw,List.append_assoc]
   case measure=>simp[intOf];omega
  ·have yt:¬ (k:Int)<(l.length:Int):=by omega
   obtain rfl:k=l.length:=by omega
   rw[List.take_length];go_wp2_with fail;go_ret;exact⟨rfl,HB.out⟩
theorem nX (b:Bool)(w:World):Calls prog 247 #[.bool b] w (fun e w'=>e=.returned (.int .i64 (if b then 1 else 0))∧w'=w):=by
 cases b
 ·go_enter func247,ntmps247;go_wp2_with fail;go_ret;exact⟨rfl,rfl⟩
 ·go_enter func247,ntmps247;go_wp2_with fail;go_ret;exact⟨rfl,rfl⟩
theorem eC (s:ByteArray)(w:World)(hs:s.size≤4611686018427387904) :
    Calls prog 244 #[.string s] w fun e w'=>e=.returned (.int .i64 (nsec s.size:Int))∧w'=w:=by
 have e1:(nsec s.size:Int)=(s.size:Int)/32+(6+(s.size:Int)%32+32-1)/32:=by unfold nsec;omega
 have E1:=QH e1;clear e1;go_enter func244,ntmps244;go_wp2;go_ret;exact⟨by rw[E1.out];rfl,rfl⟩
def qiT (l:List UInt8):List UInt8 × Int:=if 48<nsec l.length then([],3)else(l,0)
theorem qrb(l:List UInt8)(w:World)(hs:l.length≤100000):Calls prog 173 #[.string (str l)] w (fun e w'=>e=.returned (.tuple #[.string (str (qiT l).1),.int .i64 (qiT l).2])∧w'=w):=by
 have HZ:=QH (eC (str l) w (by rw[qN];omega));rw[qN]at HZ;have HR:Hid (qiT l=if 48<nsec l.length then([],3)else(l,0)):=rfl;obtain⟨n,hn⟩:=QE (nsec l.length);rw[hn]at HZ HR;obtain⟨S,hS⟩:=QE (str l);have HS:=QH hS;rw[hS]at HZ ⊢;clear hS hn;by_cases h:48<n
 ·have hi:(48:Int)<(n:Int):=by omega
  have jM:Hid (qiT l=([],3)):=by unfold Hid;rw[HR.out,if_pos h]
  clear h;go_enter func173,ntmps173;go_wp2_with fail;refine HZ.out.mono ?_;rintro e _ ⟨rfl,rfl⟩;go_wp2_with fail;go_ret2;exact⟨by rw[jM.out];rfl,rfl⟩
 ·have hi:¬ (48:Int)<(n:Int):=by omega
  have jM:Hid (qiT l=(l,0)):=by unfold Hid;rw[HR.out,if_neg h]
  clear h;go_enter func173,ntmps173;go_wp2_with fail;refine HZ.out.mono ?_;rintro e _ ⟨rfl,rfl⟩;go_wp2_with fail;go_ret2;exact⟨by rw[jM.out,HS.out];rfl,rfl⟩
end Go.Proofs.YtdpbdkacngaemaaGreatDoor.mt.pg
namespace Go.Proofs.YtdpbdkacngaemaaGreatDoor.mt.pg
open _root_.Go.Proofs.Tryz Go Go.RowKit ib wi im mt
theorem tN {xs ys:List Sp}{k:Nat}(hx:k<xs.length)(hy:k<ys.length)(h:xs.take k=ys.take k)(e:xs[k]=ys[k]):xs.take (k+1)=ys.take (k+1):=by
 rw[List.take_succ_eq_append_getElem hx,List.take_succ_eq_append_getElem hy,h,e]
theorem nY (t:Tk)(A:Option Addr)(c:Nat)(w:World)(h:js w A t.qp c)(hl:t.qp.length≤1000):Calls prog 213 #[.agg (dm t A c)] w (uC (decide (t=yB)) w):=by
 have hb:=(Below.refl w.heap.size w).alloc (Nat.le_refl _) (.cells (dm t A c) 82);have ha:=qf.new w 82 (dm t A c);obtain⟨W,hW⟩:=QE (w.alloc (.cells (dm t A c) 82));rw[hW]at hb ha;have HT:=QH (sw t yB A none c 0 W (h.below hb) (js.none _) hl);have HB:=QH hb;have a0:=ha.cell 0;have a1:=ha.cell 1;have a2:=ha.cell 2;have a3:=ha.cell 3;have a4:=ha.cell 4;have a5:=ha.cell 5;have a6:=ha.cell 6;have bn:=ha.lt;simp only[dm,QA,QB,QC]at a0 a1 a2 a3 a4 a5 a6;clear hb ha h hl;unfold dm at hW ⊢;go_enter func213,ntmps213;go_upto_region 1 with fail;try rw[hW]
 clear hW;go_wp2_with fail;refine HT.out.mono ?_;rintro e W9 ⟨rfl,hb9⟩;have HB9:=QH (qa HB.out hb9);clear hb9 a0 a1 a2 a3 a4 a5 a6 bn;go_wp2_with fail;go_ret;exact⟨rfl,HB9.out⟩
theorem qfz(b n:Int)(last:Gd):uw b n last yB=0:=by unfold uw;rw[if_pos (show yB.target=(0,0)from rfl),if_pos (show qa5 yB=true by decide)]
theorem qf0(last:Gd):above (0,0) last=false:=by unfold above;simp
theorem qiU{b n:Int}{last:Gd}{t:Tk}(h:t≠yB)(hb:dy t last b=true):uw b n last t=2:=by
 unfold uw;by_cases h0:t.target=(0,0)
 ·rw[if_pos h0,if_neg];intro h1;apply h;unfold qa5 at h1;simp only[Bool.and_eq_true,decide_eq_true_eq]at h1;obtain⟨⟨⟨e1,e2⟩,e3⟩,e4⟩:=h1;cases t;simp only at e1 e2 e3 e4 h0;subst e1 e2 e3 e4 h0;rfl
 ·rw[if_neg h0,if_pos hb]
theorem qf1{b n:Int}{last:Gd}{t:Tk}(hb:dy t last b=false):uw b n last t=zH t.qp b n:=by
 unfold uw;rw[if_neg,if_neg (by rw[hb];decide)];intro h0;unfold dy at hb;rw[h0,qf0]at hb;simp at hb
theorem nZ (t:Tk)(A:Option Addr)(c:Nat)(last:Gd)(b n:Int)(w:World)(h:js w A t.qp c)(hl:t.qp.length≤1000)(hb:qD b)(hn:qD n) :
    Calls prog 128 #[.agg (dm t A c),gv last,.int .i64 b,.int .i64 n] w (bV (uw b n last t) w):=by
 have HN:=QH (And.intro hb hn);have HL:=QH hl;have hb1:=(Below.refl w.heap.size w).alloc (Nat.le_refl _) (.cells (dm t A c) 82);have ha1:=qf.new w 82 (dm t A c);obtain⟨W1,hW1⟩:=QE (w.alloc (.cells (dm t A c) 82));rw[hW1]at hb1 ha1;have hb2:=(Below.refl W1.heap.size W1).alloc (Nat.le_refl _) (.cells #[.int .u64 (last.1:Int),.int .u64 (last.2:Int)] 38);have ha2:=qf.new W1 38 #[.int .u64 (last.1:Int),.int .u64 (last.2:Int)];obtain⟨W2,hW2⟩:=QE (W1.alloc (.cells #[.int .u64 (last.1:Int),.int .u64 (last.2:Int)] 38));rw[hW2]at hb2 ha2;have HB:=QH (qa hb1 hb2);have HA:=QH (ha1.below hb2);have HG:=QH ha2;have HI:=QH (h.below HB.out);have HT:=QH (nY t A c W2 HI.out hl);have a0:=HA.out.cell 0;have a1:=HA.out.cell 1;have a2:=HA.out.cell 2;have a3:=HA.out.cell 3;have a4:=HA.out.cell 4;have a5:=HA.out.cell 5;have a6:=HA.out.cell 6;have bn:=HA.out.lt;simp only[dm,QA,QB,QC]at a0 a1 a2 a3 a4 a5 a6;clear hb1 ha1 hb2 ha2 h hl hb hn;obtain⟨res,hres⟩:=QE (uw b n last t);rw[hres];have xj:=QH hres;clear hres;unfold dm at hW1 ⊢;unfold gv;go_enter func128,ntmps128;go_upto_region 1 with fail;try rw[hW2]
 clear hW1 hW2;obtain⟨gg,hgg⟩:=QE W1.heap.size;rw[hgg]at HG;try rw[hgg]
 clear hgg;go_wp2_with fail;refine HT.out.mono ?_;rintro e W3 ⟨rfl,hb3⟩;have zv:=QH (qa HB.out hb3);have hA:=HA.out.below hb3;have hG:=HG.out.below hb3;have HI3:=QH (HI.out.below hb3);have lL:=QH hA;have HG3:=QH hG;have a0:=hA.cell 0;have a1:=hA.cell 1;have a2:=hA.cell 2;have a3:=hA.cell 3;have a4:=hA.cell 4;have a5:=hA.cell 5;have a6:=hA.cell 6;have g0:=hG.cell 0;have g1:=hG.cell 1;have bn:=hA.lt;have hlg:=hG.lt;simp only[dm,QA,QB,QC]at a0 a1 a2 a3 a4 a5 a6 g0 g1;clear hb3 hA hG HA HG HI;by_cases h0:t=yB
 case' pos =>
  rw[decide_eq_true h0];have HR:Hid (res=0):=by unfold Hid;rw[← xj.out,h0,qfz]
  clear h0;go_wp2_with fail;go_ret;exact⟨by rw[HR.out];rfl,zv.out⟩
 rw[decide_eq_false h0];have jT:Hid (dy t last b=true→res=2):=fun hq=>by rw[← xj.out];exact qiU h0 hq
 have q4q:Hid (dy t last b=false→res=zH t.qp b n):=fun hq=>by rw[← xj.out];exact qf1 hq
 have yH:Hid (dy t last b=(!decide (t.base=last) || !above t.target last || decide (t.next<1) || decide (t.all≤t.next) || decide (b<t.all))):=rfl;clear h0 xj;by_cases h1:t.base=last
 case' neg =>
  have HR:Hid (res=2):=jT.out (by rw[yH.out,decide_eq_false h1];simp);have hgn:=lO h1;clear h1;rcases hgn with hgn|⟨hgn,qyJ⟩
  ·go_wp2_with fail;go_ret;exact⟨by rw[HR.out];rfl,zv.out⟩
  ·go_wp2_with fail;go_ret;exact⟨by rw[HR.out];rfl,zv.out⟩
 rw[h1]at a0 a1;have H1:=QH h1;have HAB:=QH (km t.target last W3);clear h1;unfold gv at HAB;go_wp2_with fail;refine HAB.out.mono ?_;rintro e W4 ⟨rfl,hb4⟩;have zx:=QH (qa zv.out hb4);have hA:=lL.out.below hb4;have HI4:=QH (HI3.out.below hb4);have a4:=hA.cell 4;have a5:=hA.cell 5;have a6:=hA.cell 6;have bn:=hA.lt;simp only[dm,QA,QB,QC]at a4 a5 a6;clear hb4 hA a0 a1 a2 a3 g0 g1 hlg lL HG3 HI3;obtain⟨q,hq⟩:=QE (above t.target last);rw[hq];cases q with
 | false =>
  have HR:Hid (res=2):=jT.out (by rw[yH.out,hq];simp);clear hq;go_wp2_with fail;go_ret;exact⟨by rw[HR.out];rfl,zx.out⟩
 | true =>
  have HQ:=QH hq;clear hq;by_cases h2:t.next<1
  ·have HR:Hid (res=2):=jT.out (by rw[yH.out,decide_eq_true h2];simp);go_wp2_with fail;go_ret;exact⟨by rw[HR.out];rfl,zx.out⟩
  by_cases h3:t.all≤t.next
  ·have HR:Hid (res=2):=jT.out (by rw[yH.out,decide_eq_true h3];simp);go_wp2_with fail;go_ret;exact⟨by rw[HR.out];rfl,zx.out⟩
  by_cases h4:b<t.all
  ·have HR:Hid (res=2):=jT.out (by rw[yH.out,decide_eq_true h4];simp);go_wp2_with fail;go_ret;exact⟨by rw[HR.out];rfl,zx.out⟩
  have HR:Hid (res=zH t.qp b n):=q4q.out (by rw[yH.out,HQ.out,decide_eq_true H1.out,decide_eq_false h2,decide_eq_false h3,decide_eq_false h4];rfl);go_wp2_with fail;refine(bX A c t.qp b n W4 HI4.out HL.out HN.out.1 HN.out.2).mono ?_;rintro e W5 ⟨rfl,hb5⟩;have yw:=QH (qa zx.out hb5);rw[← HR.out];clear hb5 a4 a5 a6 bn h2 h3 h4;go_wp2_with fail;go_ret;exact⟨rfl,yw.out⟩
end Go.Proofs.YtdpbdkacngaemaaGreatDoor.mt.pg
namespace Go.Proofs.YtdpbdkacngaemaaGreatDoor.mt
open _root_.Go.Proofs.Tryz Go Go.RowKit Go.Sort ib
end Go.Proofs.YtdpbdkacngaemaaGreatDoor.mt
namespace Go.Proofs.YtdpbdkacngaemaaGreatDoor.im
open _root_.Go.Proofs.Tryz Go Go.RowKit ib
theorem qzg{w wr:World}(h:Below w.heap.size w wr)(n:Nat):Below w.heap.size w (wr.drewN n):=⟨h.os,h.tape,h.output,h.size,h.block⟩
end Go.Proofs.YtdpbdkacngaemaaGreatDoor.im
namespace Go.Proofs.YtdpbdkacngaemaaGreatDoor.mt
open _root_.Go.Proofs.Tryz Go Go.RowKit ib wi im
theorem qcH{m:Mt}{b n:Int}(h1:zH m.live b n=0)(h2:20<m.qc.length):xo m b n=3:=by
 unfold xo;rw[if_neg (show ¬ zH m.live b n≠0 by rw[h1];simp),if_pos h2]
theorem qiV{m:Mt}{b n:Int}(h1:zH m.live b n=0)(h2:¬ 20<m.qc.length):xo m b n=if (yc b n (0,0) m.qc).1≠0 then(yc b n (0,0) m.qc).1 else uw b n (yc b n (0,0) m.qc).2 m.tok:=by
 unfold xo;rw[if_neg (show ¬ zH m.live b n≠0 by rw[h1];simp),if_neg h2]
theorem qiW{b n:Int}{last:Gd}{x:Sp}{r:List Sp}(h:above x.g last=false):yc b n last (x::r)=(2,last):=by
 conv=>lhs;unfold yc
 rw[h];rfl
theorem qiX{b n:Int}{last:Gd}{x:Sp}{r:List Sp}(h:above x.g last=true)(h0:zH x.qp b n≠0):yc b n last (x::r)=(zH x.qp b n,x.g):=by
 conv=>lhs;unfold yc
 rw[if_pos h,if_neg h0]
theorem qf2{b n:Int}{last:Gd}{x:Sp}{r:List Sp}(h:above x.g last=true)(h0:zH x.qp b n=0):yc b n last (x::r)=yc b n x.g r:=by
 conv=>lhs;unfold yc
 rw[if_pos h,if_pos h0]
end Go.Proofs.YtdpbdkacngaemaaGreatDoor.mt
namespace Go.Proofs.YtdpbdkacngaemaaGreatDoor.mt.pg
open _root_.Go.Proofs.Tryz Go Go.RowKit ib wi im mt
def q4r (gl:Nat)(b n:Int)(xs:List Sp)(w:World)(i:Value)(wr:World):Prop :=
 ∃(k:Nat) (last:Gd),k≤xs.length∧i=.int .i64 (k:Int)∧qf wr gl 38 #[.int .u64 (last.1:Int),.int .u64 (last.2:Int)]∧yc b n (0,0) xs=yc b n last (xs.drop k)∧qz (fun j=>j=gl) w wr
theorem aO (v:Value)(m:Mt)(b n:Int)(w:World)(h:si w v m)(hs:mtS m)(hbB:qD b)(hnB:qD n):Calls prog 53 #[v,.int .i64 b,.int .i64 n] w (bV (xo m b n) w):=by
 obtain⟨A0,A1,A2,c0',c1',c2',rfl,hm⟩:=h;have HM:=QH hm;have tO:=QH hs;have HNB:=QH (And.intro hbB hnB);clear hm hs hbB hnB;have hb0:=(Below.refl w.heap.size w).alloc (Nat.le_refl _) (.cells (zF A0 A1 A2 c0' c1' c2' m) 103);have jt:=QH hb0;have HM0:=QH (HM.out.below hb0);have mE:=QH (qf.new w 103 (zF A0 A1 A2 c0' c1' c2' m));obtain⟨w0,hw0⟩:=QE (w.alloc (.cells (zF A0 A1 A2 c0' c1' c2' m) 103));rw[hw0]at jt HM0 mE;clear hb0;have c0:=mE.out.cell 0;unfold zF at c0 hw0 ⊢;simp only[QA,QB,QC]at c0;have hlt:=mE.out.lt;obtain⟨res,hres⟩:=QE (xo m b n);rw[hres];have xj:=QH hres;clear hres;go_enter func53,ntmps53;go_wp2_with fail;try rw[hw0]
 clear hw0 c0 hlt;refine(bX A0 c0' m.live b n w0 HM0.out.live tO.out.live HNB.out.1 HNB.out.2).mono ?_;rintro e W1 ⟨rfl,hb1⟩;have qO:=QH (qa jt.out hb1);have HM1:=QH (HM0.out.below hb1);have ia:=QH (mE.out.below hb1);clear hb1 mE HM0 jt;obtain⟨er,her⟩:=QE (zH m.live b n);rw[her];have HER:=QH her;clear her;by_cases he:er=0
 case' neg =>
  have hne:(er != 0)=true:=by simpa using he
  have hr:res=er:=by rw[← xj.out];unfold xo;rw[HER.out,if_pos he]
  have HR:=QH hr;clear hr he;go_wp2_with fail;go_ret;exact⟨by rw[HR.out];rfl,qO.out⟩
 case' pos =>
  subst he
 have c1:=ia.out.cell 1;simp only[zF,QA,QB,QC]at c1;have hlt:=ia.out.lt;by_cases hl:20<m.qc.length
 case' pos =>
  have gZ:(20:Int)<(m.qc.length:Int):=by omega
  have hr:res=3:=by rw[← xj.out];exact qcH HER.out hl
  have HR:=QH hr;clear hr hl;go_wp2_with fail;go_ret;exact⟨by rw[HR.out];rfl,qO.out⟩
 have gZ:¬ (20:Int)<(m.qc.length:Int):=by omega
 have hres:(if (yc b n (0,0) m.qc).1≠0 then(yc b n (0,0) m.qc).1 else uw b n (yc b n (0,0) m.qc).2 m.tok)=res:=by
  rw[← xj.out];exact(qiV HER.out hl).symm
 have tG:=QH hres;have q4s:Hid (m.qc.length≤20):=by unfold Hid;omega
 clear hres hl xj HER;have hb2:=(Below.refl _ W1).alloc (Nat.le_refl _) (.cells #[.int .u64 0,.int .u64 0] 38);have qA:=QH (qa qO.out hb2);have nc:=QH (HM1.out.below hb2);have wb:=QH (ia.out.below hb2);have ig:=QH (qf.new W1 38 #[.int .u64 0,.int .u64 0]);have HGL:Hid (w.heap.size<W1.heap.size):=ia.out.lt;clear hb2;obtain⟨gl,jG⟩:=QE W1.heap.size;obtain⟨W2,hW2⟩:=QE (W1.alloc (.cells #[.int .u64 0,.int .u64 0] 38));rw[hW2]at qA nc wb ig;have d1:=wb.out.cell 1;simp only[zF,QA,QB,QC]at d1;have hlt2:=wb.out.lt;go_upto_region 7 with fail;try rw[hW2]
 clear hW2 c1 hlt;go_wp2_with fail;rw[jG]at HGL ig;try rw[jG]
 clear d1 hlt2 ia HM1 qO;clear jG;obtain⟨len,hlen⟩:=QE m.qc.length;have HLEN:=QH hlen;rw[hlen]at q4s ⊢;clear hlen;go_loopw [10,11,27] (fun _ _ i wr=>q4r gl b n m.qc W2 i wr) (fun _ _ i _=>m.qc.length-(intOf i).toNat);case atStart=>exact⟨0,(0,0),Nat.zero_le _,rfl,ig.out,rfl,qz.refl _ _⟩
 case round =>
  obtain⟨k,last,hk,rfl,hbl,hsn,j9⟩:=hrel;have HLA:=QH hbl;have xP:=QH hsn;have HBT:=QH j9;have ja:Hid (Below w.heap.size w wr):=qA.out.trans (j9.below (fun j hj=>by rw[hj];exact Nat.le_of_lt HGL.out) qA.out.size);have HMW:=QH (HM.out.below ja.out);have HAW:=QH (wb.out.of_block (j9.block _ wb.out.lt (fun e=>by have:=HGL.out;omega)));rw[HLEN.out]at hk;clear hbl hsn j9;by_cases hlt:k<len
  ·have yt:(k:Int)<(len:Int):=by omega
   have hkm:k<m.qc.length:=by rw[HLEN.out];exact hlt
   obtain⟨bb,bo,B,cb,n4,hlb,e0,e1,e2,e3,bm,hgd⟩:=HMW.out.qc k hkm;obtain⟨x,hx⟩:=QE (m.qc[k]);rw[hx]at e0 e1 e2 e3 bm hgd;have HDR:Hid (m.qc.drop k=x::m.qc.drop (k+1)):=by rw[← hx];exact List.drop_eq_getElem_cons hkm
   have HXS:Hid (x.qp.length≤1000):=by rw[← hx];exact tO.out.dC _ (List.getElem_mem hkm)
   subst n4;have mJ:=QH bm;clear bm hgd hx HMW;obtain⟨W3,hW3⟩:=QE (wr.alloc (.cells (snC x B cb) 141));have hb3:Below wr.heap.size wr W3:=by rw[← hW3];exact(Below.refl _ wr).alloc (Nat.le_refl _) _
   have hS:qf W3 wr.heap.size 141 (snC x B cb):=by rw[← hW3];exact qf.new _ _ _
   have zv:=QH hb3;have na:=QH hS;have HL3:=QH (HLA.out.below hb3);have x0:=hS.cell 0;have x1:=hS.cell 1;have hlx:=hS.lt;have l0:=HL3.out.cell 0;have l1:=HL3.out.cell 1;have rU:=HL3.out.lt;simp only[snC,QA,QB,QC]at x0 x1 l0 l1;unfold snC at hW3;clear hS hb3;have HAB:=QH (km x.g last W3);unfold gv at HAB;go_upto_region 10 with fail;try rw[hW3]
   clear hW3 e0 e1 e2 e3;obtain⟨gs,hgs⟩:=QE wr.heap.size;have HGS:=QH hgs;rw[hgs]at x0 x1 hlx na;try rw[hgs]
   clear hgs;go_wp2_with fail;refine HAB.out.mono ?_;rintro e W4 ⟨rfl,hb4⟩;have zx:=QH (qa zv.out hb4);have nb:=QH (na.out.below hb4);have HL4:=QH (HL3.out.below hb4);have hS:=nb.out;have x1':=hS.cell 2;have hlx:=hS.lt;simp only[snC,QA,QB,QC]at x1';clear hb4 x0 x1 l0 l1 rU hS na HL3;obtain⟨q,hq⟩:=QE (above x.g last);rw[hq];cases q with
   | false =>
    have HR:Hid (res=2):=by
     unfold Hid;rw[← tG.out,xP.out,HDR.out,qiW hq];rfl
    clear hq;go_wp2_with fail;go_ret;exact⟨by rw[HR.out];rfl,qa ja.out zx.out⟩
   | true =>
    have HQ:=QH hq;clear hq;go_wp2_with fail;refine(bX B cb x.qp b n W4 (mJ.out.below zx.out) HXS.out HNB.out.1 HNB.out.2).mono ?_;rintro e W5 ⟨rfl,hb5⟩;have yw:=QH (qa zx.out hb5);have wU:=QH (nb.out.below hb5);have HL5:=QH (HL4.out.below hb5);clear hb5 x1' hlx nb HL4;obtain⟨ei,hei⟩:=QE (zH x.qp b n);rw[hei];by_cases he:ei=0
    ·subst he;have HN:Hid (yc b n (0,0) m.qc=yc b n x.g (m.qc.drop (k+1))):=by
      unfold Hid;rw[xP.out,HDR.out,qf2 HQ.out hei]
     have x0:=wU.out.cell 0;have x1:=wU.out.cell 1;have hlx:=wU.out.lt;have rU:=HL5.out.lt;have l0:=HL5.out.cell 0;have l1:=HL5.out.cell 1;have f0:=HL5.out.frozen 0;have f1:=HL5.out.frozen 1;simp only[snC,QA,QB,QC]at x0 x1 l0 l1;clear hei;go_wp2_with fail;have HL6:=QH ((HL5.out.qg 0 (.int .u64 (x.g.1:Int))).qg 1 (.int .u64 (x.g.2:Int)));go_roundw;case rel =>
      refine⟨k+1,x.g,by rw[HLEN.out];omega,by go_num,HL6.out,HN.out,?_⟩;have xJ:qz (fun j=>j=gl) W2 W5:=HBT.out.trans (qz.of_below yw.out) (fun i hi=>.inl hi);exact(xJ.setCell _ _ (.inl rfl)).setCell _ _ (.inl rfl)
     case measure=>simp[intOf];have:=HLEN.out;omega
    ·have hne:(ei != 0)=true:=by simpa using he
     have HR:Hid (res=ei):=by
      unfold Hid;rw[← tG.out,xP.out,HDR.out,qiX HQ.out (by rw[hei];exact he),hei];simp[he]
     clear hei he;go_wp2_with fail;go_ret;exact⟨by rw[HR.out];rfl,qa ja.out yw.out⟩
  ·have yt:¬ (k:Int)<(len:Int):=by omega
   have hsn:yc b n (0,0) m.qc=(0,last):=by
    rw[xP.out,List.drop_eq_nil_of_le (by have:=HLEN.out;omega)];rfl
   have HR:Hid (uw b n last m.tok=res):=by
    unfold Hid;rw[← tG.out,hsn];simp
   have HT:=QH (nZ m.tok A2 c2' last b n wr (HM.out.qp.below ja.out) tO.out.qp HNB.out.1 HNB.out.2);rw[HR.out]at HT;unfold gv dm at HT;have c2:=HAW.out.cell 2;have c3:=HAW.out.cell 3;have c4:=HAW.out.cell 4;have c5:=HAW.out.cell 5;have c6:=HAW.out.cell 6;have c7:=HAW.out.cell 7;have c8:=HAW.out.cell 8;have l0:=HLA.out.cell 0;have l1:=HLA.out.cell 1;have bn:=HAW.out.lt;have rU:=HLA.out.lt;simp only[zF,QA,QB,QC]at c2 c3 c4 c5 c6 c7 c8 l0 l1;clear hsn xP;go_wp2_with fail;refine HT.out.mono ?_;rintro e W4 ⟨rfl,hb4⟩;have zx:=QH (qa ja.out hb4);clear hb4 c2 c3 c4 c5 c6 c7 c8 l0 l1;go_wp2_with fail;go_ret;exact⟨rfl,zx.out⟩
theorem qmN(L:List UInt8)(z:Int)(W:World)(h0:0≤z)(h1:z≤9223372036854775807)(hs:L.length≤100000) :
    Calls prog 245 #[.string (str L),.slice (some ⟨W.heap.size,0,none⟩) 1 1] (W.alloc (.cells #[.int .i64 z] 3)) (fun e w'=>e=.returned (.string (str (L++xI z)))∧Below W.heap.size W w'):=by
 have h:=uf L (some ⟨W.heap.size,0,none⟩) 1 [z] (W.alloc (.cells #[.int .i64 z] 3)) (dB W [z] (by intro x hx;simp only[List.mem_cons,List.not_mem_nil,or_false]at hx;subst hx;unfold qD;omega)) (by intro x hx;simp only[List.mem_cons,List.not_mem_nil,or_false]at hx;subst hx;exact h0) hs (by simp);refine h.mono ?_;rintro e w' ⟨rfl,hb⟩;exact⟨by simp[zq],qa ((Below.refl _ W).alloc (Nat.le_refl _) _) hb⟩
theorem q4u(L:List UInt8)(z y:Int)(W:World)(h0:0≤z)(h1:z≤9223372036854775807)(h2:0≤y)(h3:y≤9223372036854775807)(hs:L.length≤100000) :
    Calls prog 245 #[.string (str L),.slice (some ⟨W.heap.size,0,none⟩) 2 2] (W.alloc (.cells #[.int .i64 z,.int .i64 y] 3)) (fun e w'=>e=.returned (.string (str (L++(xI z++xI y))))∧Below W.heap.size W w'):=by
 have h:=uf L (some ⟨W.heap.size,0,none⟩) 2 [z,y] (W.alloc (.cells #[.int .i64 z,.int .i64 y] 3)) (dB W [z,y] (by intro x hx;simp only[List.mem_cons,List.not_mem_nil,or_false]at hx;unfold qD;rcases hx with rfl|rfl <;> omega)) (by intro x hx;simp only[List.mem_cons,List.not_mem_nil,or_false]at hx;rcases hx with rfl|rfl <;> assumption) hs (by simp);refine h.mono ?_;rintro e w' ⟨rfl,hb⟩;exact⟨by simp[zq],qa ((Below.refl _ W).alloc (Nat.le_refl _) _) hb⟩
theorem qcI(W:World)(l:List Nat)(h:∀z∈l,z<18446744073709551616)(t:TypeId):qmJ (W.alloc (.cells (l.map fun(n:Nat)=>Value.int .u64 (n:Int)).toArray t)) (some ⟨W.heap.size,0,none⟩) l:=fun i hi =>
 ⟨W.heap.size,0,rfl,by simp,by rw[Nat.zero_add,(qf.new W t _).cell i];simp[hi],h _ (List.getElem_mem hi)⟩
theorem q4v(L:List UInt8)(g:Gd)(W:World)(hg:xB g)(hs:L.length≤100000) :
    Calls prog 246 #[.string (str L),.slice (some ⟨W.heap.size,0,none⟩) 2 2] (W.alloc (.cells #[.int .u64 (g.1:Int),.int .u64 (g.2:Int)] 36)) (fun e w'=>e=.returned (.string (str (L++jS g)))∧Below W.heap.size W w'):=by
 have h:=qcF L (some ⟨W.heap.size,0,none⟩) 2 [g.1,g.2] (W.alloc (.cells #[.int .u64 (g.1:Int),.int .u64 (g.2:Int)] 36)) (qcI W [g.1,g.2] (by intro x hx;simp only[List.mem_cons,List.not_mem_nil,or_false]at hx;rcases hx with rfl|rfl;exact hg.1;exact hg.2) _) hs (by simp);refine h.mono ?_;rintro e w' ⟨rfl,hb⟩;exact⟨by simp[wh,jS],qa ((Below.refl _ W).alloc (Nat.le_refl _) _) hb⟩
theorem qzi(L:List UInt8)(g y:Gd)(W:World)(hg:xB g)(hy:xB y)(hs:L.length≤100000) :
    Calls prog 246 #[.string (str L),.slice (some ⟨W.heap.size,0,none⟩) 4 4] (W.alloc (.cells #[.int .u64 (g.1:Int),.int .u64 (g.2:Int),.int .u64 (y.1:Int),.int .u64 (y.2:Int)] 36)) (fun e w'=>e=.returned (.string (str (L++(jS g++jS y))))∧Below W.heap.size W w'):=by
 have h:=qcF L (some ⟨W.heap.size,0,none⟩) 4 [g.1,g.2,y.1,y.2] (W.alloc (.cells #[.int .u64 (g.1:Int),.int .u64 (g.2:Int),.int .u64 (y.1:Int),.int .u64 (y.2:Int)] 36)) (qcI W [g.1,g.2,y.1,y.2] (by intro x hx;simp only[List.mem_cons,List.not_mem_nil,or_false]at hx;rcases hx with rfl|rfl|rfl|rfl;exact hg.1;exact hg.2;exact hy.1;exact hy.2) _) hs (by simp);refine h.mono ?_;rintro e w' ⟨rfl,hb⟩;exact⟨by simp[wh,jS],qa ((Below.refl _ W).alloc (Nat.le_refl _) _) hb⟩
def tkP (t:Tk):List UInt8:=if t=yB then zu 0 else zu 1++(jS t.base++(jS t.target++(xI t.next++(xI t.all++zq t.qp))))
structure TkF(t:Tk):Prop where
 base:xB t.base
 target:xB t.target
 next:0≤t.next∧t.next≤9223372036854775807
 all:0≤t.all∧t.all≤9223372036854775807
 qp:∀z∈t.qp,0≤z
 few:t.qp.length≤100
theorem qaQ(L:List UInt8)(t:Tk)(A:Option Addr)(c:Nat)(w:World)(h:js w A t.qp c)(ht:TkF t)(hs:L.length≤50000):Calls prog 248 #[.string (str L),.agg (dm t A c)] w (qra (L++tkP t) w):=by
 have HT:=QH ht;have HS:=QH hs;have hb:=(Below.refl w.heap.size w).alloc (Nat.le_refl _) (.cells (dm t A c) 82);have ha:=qf.new w 82 (dm t A c);obtain⟨W,hW⟩:=QE (w.alloc (.cells (dm t A c) 82));rw[hW]at hb ha;have HI:=QH (h.below hb);have HN:=QH (nY t A c W HI.out (by have:=ht.few;omega));have HB:=QH hb;have HA:=QH ha;have a0:=ha.cell 0;have a1:=ha.cell 1;have a2:=ha.cell 2;have a3:=ha.cell 3;have a4:=ha.cell 4;have a5:=ha.cell 5;have a6:=ha.cell 6;have bn:=ha.lt;simp only[dm,QA,QB,QC]at a0 a1 a2 a3 a4 a5 a6;clear hb ha h hs ht;unfold dm at hW HN ⊢;go_enter func248,ntmps248;go_upto_region 1 with fail;try rw[hW]
 clear hW;go_wp2_with fail;refine HN.out.mono ?_;rintro e W1 ⟨rfl,hb1⟩;have qO:=QH (qa HB.out hb1);have ia:=QH (HA.out.below hb1);have HI1:=QH (HI.out.below hb1);clear hb1 a0 a1 a2 a3 a4 a5 a6 bn HN HA HI HB;by_cases h0:t=yB
 ·have HR:Hid (tkP t=xI 0):=by unfold Hid tkP;rw[if_pos h0];rfl
  rw[decide_eq_true h0];clear h0;go_wp2_with fail;refine(nX false W1).mono ?_;rintro e _ ⟨rfl,rfl⟩;dsimp only;go_wp2_with fail;refine(qmN L 0 _ (by omega) (by omega) (by have:=HS.out;omega)).mono ?_;rintro e W2 ⟨rfl,hb2⟩;have qA:=QH (qa qO.out hb2);rw[← HR.out];clear hb2;go_wp2_with fail;go_ret;exact⟨rfl,qA.out⟩
 ·have HR:Hid (tkP t=xI 1++(jS t.base++(jS t.target++(xI t.next++(xI t.all++zq t.qp))))):=by unfold Hid tkP;rw[if_neg h0];rfl
  rw[decide_eq_false h0];clear h0;go_wp2_with fail;refine(nX true W1).mono ?_;rintro e _ ⟨rfl,rfl⟩;dsimp only;go_wp2_with fail;refine(qmN L 1 _ (by omega) (by omega) (by have:=HS.out;omega)).mono ?_;rintro e W2 ⟨rfl,hb2⟩;have qA:=QH (qa qO.out hb2);have ha:=ia.out.below hb2;have wb:=QH ha;have HI2:=QH (HI1.out.below hb2);obtain⟨L1,hL1⟩:=QE (L++xI 1);have HL1:=QH hL1;have bY:Hid (L1.length≤50009):=by
   unfold Hid;rw[← hL1,List.length_append];have:=HS.out;have:=qx (1:Int).toNat;unfold xI;omega
  rw[hL1];have a0:=ha.cell 0;have a1:=ha.cell 1;have a2:=ha.cell 2;have a3:=ha.cell 3;have bn:=ha.lt;simp only[dm,QA,QB,QC]at a0 a1 a2 a3;clear hb2 ha hL1;go_wp2_with fail;refine(qzi L1 t.base t.target _ HT.out.base HT.out.target (by have:=bY.out;omega)).mono ?_;rintro e W3 ⟨rfl,hb3⟩;have zv:=QH (qa qA.out hb3);have ha:=wb.out.below hb3;have lL:=QH ha;have HI3:=QH (HI2.out.below hb3);obtain⟨L2,hL2⟩:=QE (L1++(jS t.base++jS t.target));have ig:=QH hL2;have kT:Hid (L2.length≤50100):=by
   unfold Hid;rw[← hL2];have:=bY.out;have:=qx t.base.1;have:=qx t.base.2;have:=qx t.target.1;have:=qx t.target.2;unfold jS;simp only[List.length_append];omega
  rw[hL2];have a4:=ha.cell 4;have a5:=ha.cell 5;have bn:=ha.lt;simp only[dm,QA,QB,QC]at a4 a5;clear hb3 ha hL2 a0 a1 a2 a3;go_wp2_with fail;refine(q4u L2 t.next t.all _ HT.out.next.1 HT.out.next.2 HT.out.all.1 HT.out.all.2 (by have:=kT.out;omega)).mono ?_;rintro e W4 ⟨rfl,hb4⟩;have zx:=QH (qa zv.out hb4);have ha:=lL.out.below hb4;have HI4:=QH (HI3.out.below hb4);obtain⟨L3,hL3⟩:=QE (L2++(xI t.next++xI t.all));have HL3:=QH hL3;have na:Hid (L3.length≤50200):=by
   unfold Hid;rw[← hL3];have:=kT.out;have:=qx t.next.toNat;have:=qx t.all.toNat;unfold xI;simp only[List.length_append];omega
  rw[hL3];have a6:=ha.cell 6;have bn:=ha.lt;simp only[dm,QA,QB,QC]at a6;clear hb4 ha hL3 a4 a5;go_wp2_with fail;refine(uf L3 A c t.qp W4 HI4.out.ints HT.out.qp (by have:=na.out;omega) (by have:=HT.out.few;omega)).mono ?_;rintro e W5 ⟨rfl,hb5⟩;have yw:=QH (qa zx.out hb5);have HE:Hid (L3++zq t.qp=L++tkP t):=by
   unfold Hid;rw[HR.out,← HL3.out,← ig.out,← HL1.out];simp only[List.append_assoc]
  rw[HE.out];clear hb5 a6 bn;go_wp2_with fail;go_ret;exact⟨rfl,yw.out⟩
end Go.Proofs.YtdpbdkacngaemaaGreatDoor.mt.pg
namespace Go.Proofs.YtdpbdkacngaemaaGreatDoor.wi
open _root_.Go.Proofs.Tryz Go.RowKit
end Go.Proofs.YtdpbdkacngaemaaGreatDoor.wi
namespace Go.Proofs.YtdpbdkacngaemaaGreatDoor.mt
open _root_.Go.Proofs.Tryz Go Go.RowKit ib wi
theorem qmO(z:Int):(xI z).length≤9:=by
 unfold xI zu;have:=jJ z.toNat;simp only[List.length_cons];omega
theorem jB:∀l:List Int,(zq l).length≤9*l.length
 | []=>by simp[zq]
 | z::l=>by
  have h1:=qmO z;have h2:=jB l;simp only[zq,List.flatMap_cons,List.length_append,List.length_cons]at h2 ⊢;omega
end Go.Proofs.YtdpbdkacngaemaaGreatDoor.mt
namespace Go.Proofs.YtdpbdkacngaemaaGreatDoor.mt
open _root_.Go.Proofs.Tryz Go Go.RowKit ib wi im
theorem qx (n:Nat):(zu n).length≤9:=by
 unfold zu;have:=jJ n;simp only[List.length_cons];omega
theorem qmP(g:Gd):(jS g).length≤18:=by
 unfold jS;have:=qx g.1;have:=qx g.2;rw[List.length_append];omega
end Go.Proofs.YtdpbdkacngaemaaGreatDoor.mt
namespace Go.Proofs.YtdpbdkacngaemaaGreatDoor.mt
open _root_.Go.Proofs.Tryz Go Go.RowKit ib wi
end Go.Proofs.YtdpbdkacngaemaaGreatDoor.mt
namespace Go.Proofs.YtdpbdkacngaemaaGreatDoor
open _root_.Go.Proofs.Tryz Go Go.RowKit
section
variable {P:Program} {ops:Array Oper} {Q:Exit→Act→World→Prop} {a0:Act} {m:Nat} {ds:List Tmp} {I:(Nat→Bool)→(Nat→Value)→World→Prop}
end
end Go.Proofs.YtdpbdkacngaemaaGreatDoor
namespace Go.Proofs.YtdpbdkacngaemaaGreatDoor.mt
open _root_.Go.Proofs.Tryz Go Go.RowKit ib wi im
theorem qrd(x:Sp)(h:x.qp.length≤8):(spB x).length≤99:=by
 unfold spB;have h1:=qmP x.g;have h2:=qx (if x.hid then 1 else 0);have h3:=jB x.qp;simp only[List.length_append];omega
theorem eQ:∀(l:List Sp),(∀x∈l,x.qp.length≤8)→(jh l).length≤99*l.length
 | [],_=>by simp[jh]
 | x::l,h=>by
  have h1:=qrd x (h x (by simp));have h2:=eQ l (fun y hy=>h y (by simp[hy]));simp only[jh,List.flatMap_cons,List.length_append,List.length_cons]at h2 ⊢;omega
theorem qiY(l:List Sp)(k:Nat)(h:k<l.length):jh (l.take (k+1))=jh (l.take k)++spB l[k]:=by
 unfold jh;rw[List.take_succ_eq_append_getElem h,List.flatMap_append];simp
theorem qre(b:Bool):zu (if b then 1 else 0)=xI (if b then 1 else 0):=by cases b <;> rfl
end Go.Proofs.YtdpbdkacngaemaaGreatDoor.mt
namespace Go.Proofs.YtdpbdkacngaemaaGreatDoor.mt.pg
open _root_.Go.Proofs.Tryz Go Go.RowKit ib wi im mt
structure qvi(m:Mt):Prop where
 live:∀z∈m.live,0≤z
 few:m.live.length≤8
 qc:∀s∈m.qc,xB s.g∧s.qp.length≤8∧∀z∈s.qp,0≤z
 qzk:m.qc.length≤20
 tok:TkF m.tok
theorem qrf{m:Mt}(hB:mB m)(h:xo m m.live.length 1024=0):qvi m∧tkP m.tok=tkB m.tok:=by
 obtain⟨h1,h2,h3,h4⟩:=dz hB h;have ht:=h1.tok;unfold ew at ht;refine⟨⟨fun z hz=>(h1.live z hz).1,h3,fun s hs=>⟨(h1.qc s hs).1,by rw[(h1.qc s hs).2.1];exact h3,fun z hz=>((h1.qc s hs).2.2 z hz).1⟩,h4,?_⟩,?_⟩
 ·by_cases h0:m.tok.target=(0,0)
  ·rw[if_pos h0]at ht;rw[ht];exact⟨bU,bU,by unfold yB;simp,by unfold yB;simp,fun z hz=>absurd hz (by simp[yB]),by simp[yB]⟩
  ·rw[if_neg h0]at ht;obtain⟨a1,a2,a3,a4,a5,a6⟩:=ht;exact⟨a1,a2,by omega,by omega,fun z hz=>(a6 z hz).1,by omega⟩
 ·unfold tkP tkB;by_cases h0:m.tok.target=(0,0)
  ·rw[if_pos h0]at ht;rw[if_pos h0,if_pos ht]
  ·rw[if_neg h0,if_neg];intro e;exact h0 (by rw[e];rfl)
def qzl (L:List UInt8)(xs:List Sp)(w:World)(v x i:Value)(wr:World):Prop :=
 ∃k:Nat,k≤xs.length∧i=.int .i64 (k:Int)∧v=.string (str (L++jh (xs.take k)))∧Below w.heap.size w wr
theorem kz (A0 A1 A2:Option Addr)(d0 d1 d2:Nat)(m:Mt)(w:World)(hm:MtL w A0 A1 A2 d0 d1 d2 m)(hf:qvi m):Calls prog 174 #[.agg (zF A0 A1 A2 d0 d1 d2 m)] w (qra (zu m.live.length++(zq m.live++(zu m.qc.length++(jh m.qc++tkP m.tok)))) w):=by
 have HF:=QH hf;have hb:=(Below.refl w.heap.size w).alloc (Nat.le_refl _) (.cells (zF A0 A1 A2 d0 d1 d2 m) 103);have ha:=qf.new w 103 (zF A0 A1 A2 d0 d1 d2 m);obtain⟨W,hW⟩:=QE (w.alloc (.cells (zF A0 A1 A2 d0 d1 d2 m) 103));rw[hW]at hb ha;have HM:=QH (hm.below hb);have HB:=QH hb;have HA:=QH ha;have a0:=ha.cell 0;have bn:=ha.lt;simp only[zF,QA,QB,QC]at a0;clear hb ha hm hf;have sA:Hid (m.live.length≤8):=HF.out.few;have HNS:Hid (m.qc.length≤20):=HF.out.qzk;unfold zF at hW ⊢;go_enter func174,ntmps174;go_upto_region 1 with fail;try rw[hW]
 clear hW;go_wp2_with fail;have l0:=qmN [] (m.live.length:Int) W (by omega) (by have:=sA.out;omega) (by simp);refine l0.mono ?_;clear l0;rintro e W1 ⟨rfl,hb1⟩;have qO:=QH (qa HB.out hb1);have ha:=HA.out.below hb1;have ia:=QH ha;have HM1:=QH (HM.out.below hb1);obtain⟨L1,hL1⟩:=QE ([]++xI (m.live.length:Int));have HL1:Hid (L1=zu m.live.length):=by unfold Hid;rw[← hL1];simp[xI]
 rw[hL1];have a0:=ha.cell 0;have bn:=ha.lt;simp only[zF,QA,QB,QC]at a0;clear hb1 ha hL1 HM HA HB;go_wp2_with fail;refine(uf L1 A0 d0 m.live W1 HM1.out.live.ints HF.out.live (by rw[HL1.out];have:=qx m.live.length;omega) (by have:=sA.out;omega)).mono ?_;rintro e W2 ⟨rfl,hb2⟩;have qA:=QH (qa qO.out hb2);have ha:=ia.out.below hb2;have wb:=QH ha;have nc:=QH (HM1.out.below hb2);obtain⟨L2,hL2⟩:=QE (L1++zq m.live);have ig:Hid (L2=zu m.live.length++zq m.live):=by unfold Hid;rw[← hL2,HL1.out]
 have kT:Hid (L2.length≤81):=by
  unfold Hid;rw[ig.out,List.length_append];have:=qx m.live.length;have:=jB m.live;have:=sA.out;omega
 rw[hL2];have a1:=ha.cell 1;have bn:=ha.lt;simp only[zF,QA,QB,QC]at a1;clear hb2 ha hL2 HM1 ia qO a0;go_wp2_with fail;refine(qmN L2 (m.qc.length:Int) W2 (by omega) (by have:=HNS.out;omega) (by have:=kT.out;omega)).mono ?_;rintro e W3 ⟨rfl,hb3⟩;have zv:=QH (qa qA.out hb3);have ha:=wb.out.below hb3;have lL:=QH ha;have HM3:=QH (nc.out.below hb3);obtain⟨L3,hL3⟩:=QE (L2++xI (m.qc.length:Int));have HL3:Hid (L3=zu m.live.length++(zq m.live++zu m.qc.length)):=by unfold Hid;rw[← hL3,ig.out];simp[xI]
 have na:Hid (L3.length≤90):=by
  unfold Hid;rw[← hL3,List.length_append];have:=qx (m.qc.length:Int).toNat;have:=kT.out;unfold xI;omega
 rw[hL3];have a1:=ha.cell 1;have bn:=ha.lt;simp only[zF,QA,QB,QC]at a1;clear hb3 ha hL3 nc wb qA;have mJ:Hid ((jh m.qc).length≤1980):=by
  unfold Hid;have:=eQ m.qc (fun x hx=>(HF.out.qc x hx).2.1);have:=HNS.out;omega
 have HSK:Hid (∀k,k≤m.qc.length→(jh (m.qc.take k)).length≤1980):=fun k hk=>by
  have:=eQ (m.qc.take k) (fun x hx=>(HF.out.qc x (List.mem_of_mem_take hx)).2.1);have:=HNS.out;have h3:(m.qc.take k).length≤20:=by simp only[List.length_take];omega
  omega
 obtain⟨len,hlen⟩:=QE m.qc.length;have HLEN:=QH hlen;rw[hlen]at a1 HNS HSK;clear hlen;go_wp2_with fail;clear a1;go_loopw [3,5,24] (fun v x i wr=>qzl L3 m.qc W3 v x i wr) (fun _ _ i _=>len-(intOf i).toNat);case atStart=>exact⟨0,Nat.zero_le _,rfl,by simp[jh],Below.refl _ _⟩
 case round =>
  obtain⟨k,hk,rfl,rfl,j9⟩:=hrel;have ja:=QH j9;have HAW:=QH (lL.out.below j9);have HMW:=QH (HM3.out.below j9);rw[HLEN.out]at hk;clear j9;obtain⟨P,hP⟩:=QE (L3++jh (m.qc.take k));have HP:=QH hP;have rT:Hid (P.length≤2100):=by
   unfold Hid;rw[← hP,List.length_append];have:=na.out;have:=HSK.out k hk;omega
  rw[hP];clear hP;by_cases hlt:k<len
  ·have yt:(k:Int)<(len:Int):=by omega
   have za8:k≤20:=by have:=HNS.out;omega
   have hkm:k<m.qc.length:=by rw[HLEN.out];exact hlt
   obtain⟨bb,bo,B,cb,n4,hlb,e0,e1,e2,e3,bm,hgd⟩:=HMW.out.qc k hkm;have hsf:=HF.out.qc _ (List.getElem_mem hkm);have xP:=QH (qiY m.qc k hkm);obtain⟨x,hx⟩:=QE (m.qc[k]);rw[hx]at e0 e1 e2 e3 bm hgd hsf xP;have HSF:=QH hsf;subst n4;have HSI:=QH bm;clear bm hgd hx hsf;obtain⟨W4,ie⟩:=QE (wr.alloc (.cells (snC x B cb) 141));have hb4:Below wr.heap.size wr W4:=by rw[← ie];exact(Below.refl _ wr).alloc (Nat.le_refl _) _
   have hS:qf W4 wr.heap.size 141 (snC x B cb):=by rw[← ie];exact qf.new _ _ _
   have zx:=QH (qa ja.out hb4);have HI4:=QH (HSI.out.below hb4);have nb:=QH hS;have x0:=hS.cell 0;have x1:=hS.cell 1;have hlx:=hS.lt;simp only[snC,QA,QB,QC]at x0 x1;unfold snC at ie;clear hS hb4 HSI;go_upto_region 7 with fail;try rw[ie]
   clear ie e0 e1 e2 e3;obtain⟨gs,hgs⟩:=QE wr.heap.size;rw[hgs]at x0 x1 hlx nb;try rw[hgs]
   clear hgs;go_wp2_with fail;refine(q4v P x.g W4 HSF.out.1 (by have:=rT.out;omega)).mono ?_;rintro e W5 ⟨rfl,hb5⟩;have yw:=QH (qa zx.out hb5);have HI5:=QH (HI4.out.below hb5);have hS:=nb.out.below hb5;have wU:=QH hS;obtain⟨P1,hP1⟩:=QE (P++jS x.g);have HP1:=QH hP1;have qzn:Hid (P1.length≤2200):=by
    unfold Hid;rw[← hP1,List.length_append];have:=rT.out;have:=qx x.g.1;have:=qx x.g.2;unfold jS;simp only[List.length_append];omega
   rw[hP1];have x3:=hS.cell 3;have hlx:=hS.lt;simp only[snC,QA,QB,QC]at x3;clear hb5 hS hP1 x0 x1 nb HI4;go_wp2_with fail;refine(nX x.hid W5).mono ?_;rintro e _ ⟨rfl,rfl⟩;obtain⟨fl,gW⟩:=QE ((if x.hid=true then 1 else 0):Int);rw[gW];have HFL:=QH gW;have hfb:0≤fl∧fl≤1:=by rw[← gW];split <;> omega
   have HFB:=QH hfb;clear gW hfb;go_wp2_with fail;refine(qmN P1 fl _ HFB.out.1 (by have:=HFB.out.2;omega) (by have:=qzn.out;omega)).mono ?_;rintro e W6 ⟨rfl,vg⟩;have dL:=QH (qa yw.out vg);have HI6:=QH (HI5.out.below vg);have hS:=wU.out.below vg;obtain⟨P2,hP2⟩:=QE (P1++xI fl);have sB:=QH hP2;have q4y:Hid (P2.length≤2300):=by
    unfold Hid;rw[← hP2,List.length_append];have:=qzn.out;have:=qx fl.toNat;unfold xI;omega
   rw[hP2];have x2:=hS.cell 2;have hlx:=hS.lt;simp only[snC,QA,QB,QC]at x2;clear vg hS hP2 x3 wU HI5;go_wp2_with fail;refine(uf P2 B cb x.qp W6 HI6.out.ints HSF.out.2.2 (by have:=q4y.out;omega) (by have:=HSF.out.2.1;omega)).mono ?_;rintro e W7 ⟨rfl,hb7⟩;have HB7:=QH (qa dL.out hb7);have HE:Hid (P2++zq x.qp=L3++jh (m.qc.take (k+1))):=by
    unfold Hid;rw[xP.out,← sB.out,← HP1.out,← HP.out,← HFL.out];unfold spB;rw[qre];simp only[List.append_assoc]
   rw[HE.out];clear hb7 x2 hlx;go_wp2_with fail;go_roundw;case rel=>exact⟨k+1,by rw[HLEN.out];omega,by go_num,rfl,HB7.out⟩
   case measure=>simp[intOf];omega
  ·have yt:¬ (k:Int)<(len:Int):=by omega
   obtain rfl:k=len:=by omega
   have HE:Hid (P=L3++jh m.qc):=by
    unfold Hid;rw[← HP.out,List.take_of_length_le (by have:=HLEN.out;omega)]
   have ha:=HAW.out;have a2:=ha.cell 2;have a3:=ha.cell 3;have a4:=ha.cell 4;have a5:=ha.cell 5;have a6:=ha.cell 6;have a7:=ha.cell 7;have a8:=ha.cell 8;have bn:=ha.lt;simp only[zF,QA,QB,QC]at a2 a3 a4 a5 a6 a7 a8;have HT:=QH (qaQ P m.tok A2 d2 wr HMW.out.qp HF.out.tok (by have:=rT.out;omega));unfold dm at HT;clear ha HP;go_wp2_with fail;refine HT.out.mono ?_;rintro e W4 ⟨rfl,hb4⟩;have zx:=QH (qa (qa zv.out ja.out) hb4);have HE2:Hid (P++tkP m.tok=zu m.live.length++(zq m.live++(zu m.qc.length++(jh m.qc++tkP m.tok)))):=by
    unfold Hid;rw[HE.out,HL3.out];simp only[List.append_assoc]
   rw[HE2.out];clear hb4 a2 a3 a4 a5 a6 a7 a8 HT;go_wp2_with fail;go_ret;exact⟨rfl,zx.out⟩
theorem qh9(v:Value)(m:Mt)(w:World)(h:si w v m)(hs:mtS m):Calls prog 100 #[v] w (qu9 (gU m) w):=by
 have hmB:=h.mB;obtain⟨A0,A1,A2,d0,d1,d2,rfl,hm⟩:=h;have HMB:=QH hmB;have tO:=QH hs;have hb:=(Below.refl w.heap.size w).alloc (Nat.le_refl _) (.cells (zF A0 A1 A2 d0 d1 d2 m) 103);have ha:=qf.new w 103 (zF A0 A1 A2 d0 d1 d2 m);obtain⟨W,hW⟩:=QE (w.alloc (.cells (zF A0 A1 A2 d0 d1 d2 m) 103));rw[hW]at hb ha;have HM:=QH (hm.below hb);have HB:=QH hb;have HA:=QH ha;have a0:=ha.cell 0;have a1:=ha.cell 1;have a2:=ha.cell 2;have a3:=ha.cell 3;have a4:=ha.cell 4;have a5:=ha.cell 5;have a6:=ha.cell 6;have a7:=ha.cell 7;have a8:=ha.cell 8;have bn:=ha.lt;simp only[zF,QA,QB,QC]at a0 a1 a2 a3 a4 a5 a6 a7 a8;have HC:=QH (aO (.agg (zF A0 A1 A2 d0 d1 d2 m)) m (m.live.length:Int) 1024 W ⟨_,_,_,_,_,_,rfl,HM.out⟩ hs (by unfold qD;have:=hs.live;omega) (by unfold qD;omega));clear hb ha hm hs hmB;have qrh:Hid (gU m=if xo m m.live.length 1024≠0 then([],xo m m.live.length 1024)else if 48<nsec (zA m).length then([],3)else(zA m,0)):=rfl;have HPF:Hid (xo m m.live.length 1024=0→qvi m∧tkP m.tok=tkB m.tok):=fun hq=>qrf HMB.out hq;obtain⟨er,her⟩:=QE (xo m m.live.length 1024);rw[her]at HC qrh HPF;unfold zF at hW HC ⊢;clear her;go_enter func100,ntmps100;go_upto_region 1 with fail;try rw[hW]
 clear hW;go_wp2_with fail;refine HC.out.mono ?_;rintro e W1 ⟨rfl,hb1⟩;have qO:=QH (qa HB.out hb1);have HM1:=QH (HM.out.below hb1);have ha:=HA.out.below hb1;clear hb1 HC a0 a1 a2 a3 a4 a5 a6 a7 a8 bn;by_cases he:er=0
 ·subst he;obtain⟨hpf,rV⟩:=HPF.out rfl;have bq:=QH (kz A0 A1 A2 d0 d1 d2 m W1 HM1.out hpf);have qzo:Hid (zu m.live.length++(zq m.live++(zu m.qc.length++(jh m.qc++tkP m.tok)))=zA m):=by unfold Hid;rw[rV];rfl
  rw[qzo.out]at bq;have HLB:Hid ((zA m).length≤100000):=by
   unfold Hid;rw[← qzo.out];have t1:=eQ m.qc (fun x hx=>(hpf.qc x hx).2.1);have t2:=hpf.qzk;have t3:=hpf.few;have t4:=qx m.live.length;have t5:=jB m.live;have t6:=qx m.qc.length;have t7:(tkP m.tok).length≤1000:=by
    unfold tkP;split
    ·have:=qx 0;omega
    ·have:=qx 1;have:=qx m.tok.base.1;have:=qx m.tok.base.2;have:=qx m.tok.target.1;have:=qx m.tok.target.2;have:=qx m.tok.next.toNat;have:=qx m.tok.all.toNat;have:=jB m.tok.qp;have:=hpf.tok.few;unfold jS xI;simp only[List.length_append];omega
   simp only[List.length_append];omega
  obtain⟨L,hL⟩:=QE (zA m);rw[hL]at bq HLB qrh;have HFI:Hid (gU m=qiT L):=by unfold Hid;rw[qrh.out,if_neg (by simp)];rfl
  have a0:=ha.cell 0;have a1:=ha.cell 1;have a2:=ha.cell 2;have a3:=ha.cell 3;have a4:=ha.cell 4;have a5:=ha.cell 5;have a6:=ha.cell 6;have a7:=ha.cell 7;have a8:=ha.cell 8;have bn:=ha.lt;simp only[zF,QA,QB,QC]at a0 a1 a2 a3 a4 a5 a6 a7 a8;unfold zF at bq;clear hpf rV hL ha;go_wp2_with fail;refine bq.out.mono ?_;rintro e W2 ⟨rfl,hb2⟩;have qA:=QH (qa qO.out hb2);clear hb2 a0 a1 a2 a3 a4 a5 a6 a7 a8 bn;go_wp2_with fail;refine(qrb L W2 HLB.out).mono ?_;rintro e _ ⟨rfl,rfl⟩;rw[← HFI.out];go_wp2_with fail;go_ret2;exact⟨rfl,qA.out⟩
 ·have hne:(er != 0)=true:=by simpa using he
  have HR:Hid (gU m=([],er)):=by unfold Hid;rw[qrh.out,if_pos he]
  clear he ha;go_wp2_with fail;go_ret2;exact⟨by rw[HR.out];rfl,qO.out⟩
end Go.Proofs.YtdpbdkacngaemaaGreatDoor.mt.pg
namespace Go.Proofs.YtdpbdkacngaemaaGreatDoor.mt.pg
open _root_.Go.Proofs.Tryz Go Go.RowKit Go.Proofs.YtdpbdkacngaemaaGreatDoor.ib Go.Proofs.YtdpbdkacngaemaaGreatDoor.wi Go.Proofs.YtdpbdkacngaemaaGreatDoor.im Go.Proofs.YtdpbdkacngaemaaGreatDoor.mt
theorem xT {fn:Func}{p q:Tmp}{ty:TypeId}(h:fn.results = #[.cell p ty,.tmp q])(tmps:Array Value)(P:Program)(w:World)(a:Addr)(v1 v2:Value)
    (hp:tmps.getD p undef=.pointer (some a)) (hq:tmps.getD q undef=v2) (h1:(loadVar ty a).run P w=.ok v1 w):(results fn tmps).run P w=.ok (.tuple #[v1,v2]) w:=by
 simp only[results,h];simp only[Array.getD_eq_getD_getElem?]at hp hq;simp[Sem.run_bind,Result.andThen,asAddr,hp,hq,h1]
end Go.Proofs.YtdpbdkacngaemaaGreatDoor.mt.pg
namespace Go.Proofs.YtdpbdkacngaemaaGreatDoor.mt
open _root_.Go.Proofs.Tryz Go Go.RowKit Go.Proofs.YtdpbdkacngaemaaGreatDoor.ib
end Go.Proofs.YtdpbdkacngaemaaGreatDoor.mt
namespace Go.Proofs.YtdpbdkacngaemaaGreatDoor.dk
abbrev Bt:=List UInt8
abbrev qH:=List (Option Bt)
def zz:Bt:=List.replicate 32 0
def rep (c:UInt8)(n:Nat):Bt:=List.replicate n c
def dat (c:UInt8):Bt:=if c.toNat≤250 then rep c 32 else rep c (c.toNat%31)
theorem ze:zz.length=32:=by simp[zz]
def look (s:qH)(k:Int):Option Bt:=if 0≤k then(s[k.toNat]?).getD none else none
def put (s:qH)(k:Nat)(v:Bt):qH:=s.set k (some v)
def cnt (s:qH):Nat:=s.countP Option.isSome
theorem o7 (s:qH)(k:Nat):look s (k:Int)=(s[k]?).getD none:=by simp[look]
theorem zG (s:qH)(k:Nat)(o:Option Bt)(h:k<s.length):look (s.set k o) (k:Int)=o:=by
 rw[o7,List.getElem?_set_self h];rfl
theorem zV (s:qH)(k:Nat)(j:Int)(o:Option Bt)(h:j≠(k:Int)):look (s.set k o) j=look s j:=by
 unfold look;split
 ·rw[List.getElem?_set_ne (by omega)]
 ·rfl
theorem qhA(s:qH)(k:Nat)(u:Bt)(h:k<s.length)(hx:s[k]=some u):1≤cnt s :=
 List.countP_pos_iff.2 ⟨_,List.getElem_mem h,by rw[hx];rfl⟩
theorem wV (s:qH)(k:Nat)(v:Bt)(h:k<s.length):cnt (s.set k (some v))=if (look s (k:Int)).isSome then cnt s else cnt s+1:=by
 unfold cnt;rw[List.countP_set h,o7,List.getElem?_eq_getElem h];cases hx:s[k]with
 | none=>simp
 | some u =>
  have hle:=qhA s k u h hx;unfold cnt at hle;simp;omega
theorem qaS(s:qH)(k:Nat)(h:k<s.length):cnt (s.set k none)+(if (look s (k:Int)).isSome then 1 else 0)=cnt s:=by
 unfold cnt;rw[List.countP_set h,o7,List.getElem?_eq_getElem h];cases hx:s[k]with
 | none=>simp
 | some u =>
  have hle:=qhA s k u h hx;unfold cnt at hle;simp;omega
theorem qaT(s:qH):cnt s≤s.length:=List.countP_le_length
structure DD where
 room:Int
 base:qH
 more:List (Nat × Bt)
 on:Bool
 qy:Int
def qY (s:qH)(l:List (Nat × Bt)):qH:=l.foldl (fun s w=>put s w.1 w.2) s
theorem xf:∀(l:List (Nat × Bt)) (s:qH),(qY s l).length=s.length
 | [],_=>rfl
 | w::l,s=>by rw[qY,List.foldl_cons,← qY,xf l];simp[put]
theorem iG (s:qH)(w:Nat × Bt)(l:List (Nat × Bt)):qY s (w::l)=qY (put s w.1 w.2) l:=rfl
theorem iH (s:qH)(l:List (Nat × Bt))(w:Nat × Bt):qY s (l++[w])=put (qY s l) w.1 w.2:=by simp[qY]
theorem jC (s:qH)(l r:List (Nat × Bt)):qY s (l++r)=qY (qY s l) r:=by simp[qY]
def DD.n (d:DD):Nat:=d.base.length
def DD.now (d:DD):qH:=qY d.base d.more
theorem DD.jv(d:DD):d.now.length=d.n:=xf _ _
def DD.used(d:DD):Nat:=cnt d.now
def DD.has (d:DD)(at_:Int):Bool:=decide (0≤at_)&&decide (at_<(d.n:Int))
structure DD.ok(d:DD)(most:Nat):Prop where
 n0:1≤d.n
 n1:d.n≤1024
 qzp:0≤d.room
 qzq:d.room≤9223372036854775807
 qhB:0≤d.qy
 qhC:d.qy≤9223372036854775807
 qcJ:d.more.length≤most
 at1:∀w∈d.more,w.1<d.n∧w.2.length=32
 qts:∀v,some v∈d.base→v.length=32
theorem DD.ok.mono{d:DD}{m m':Nat}(h:d.ok m)(hm:m≤m'):d.ok m':={ h with qcJ:=Nat.le_trans h.qcJ hm }
theorem mem_set{s:qH}{k:Nat}{o:Option Bt}{v:Bt}(h:some v∈s.set k o):some v∈s∨o=some v:=by
 rcases List.mem_or_eq_of_mem_set h with h|h
 ·exact .inl h
 ·exact .inr h.symm
theorem dM {l:List (Nat × Bt)}:∀ {s:qH},(∀v,some v∈s→v.length=32)→(∀w∈l,w.2.length=32)→∀v,some v∈qY s l→v.length=32:=by
 induction l with
 | nil=>intro s h _ v hv;exact h v hv
 | cons w l ih =>
  intro s h hl v hv;refine ih (s:=put s w.1 w.2) (fun u hu=>?_) (fun x hx=>hl x (by simp[hx])) v hv;rcases mem_set hu with h' | h'
  ·exact h u h'
  ·injection h' with h';subst h';exact hl w (by simp)
theorem DD.ok.qzr{d:DD}{m:Nat}(h:d.ok m):∀v,some v∈d.now→v.length=32:=dM h.qts (fun w hw=>(h.at1 w hw).2)
theorem qmR{s:qH}{k:Int}{v:Bt}(h:look s k=some v):some v∈s:=by
 unfold look at h;split at h
 ·cases hx:s[k.toNat]? with
  | none=>rw[hx]at h;simp at h
  | some o=>rw[hx]at h;simp at h;subst h;exact List.mem_of_getElem? hx
 ·cases h
theorem DD.ok.tP{d:DD}{m:Nat}(h:d.ok m){k:Int}{v:Bt}(hv:look d.now k=some v):v.length=32:=h.qzr v (qmR hv)
def iI:qH→List (Nat × Bt)→List (Nat × Bt × Bt × Bool)
 | _,[]=>[]
 | s,(k,v)::r=>(k,v,(look s (k:Int)).getD zz,(look s (k:Int)).isSome)::iI (put s k v) r
theorem tQ:∀(l:List (Nat × Bt)) (s:qH) (k:Nat) (v:Bt),
    iI s (l++[(k,v)])=iI s l++[(k,v,(look (qY s l) (k:Int)).getD zz,(look (qY s l) (k:Int)).isSome)]
 | [],s,k,v=>rfl
 | (j,u)::r,s,k,v=>by
  show _::iI (put s j u) (r++[(k,v)])=_;rw[tQ r];rfl
def stay (l:List (Nat × Bt))(keep:List Bool):List (Nat × Bt) :=
 match l,keep with
 | w::l,b::keep=>(if b then[w]else[])++stay l keep
 | _,_=>[]
theorem qmS(l:List (Nat × Bt)):stay l []=[]:=by cases l <;> rfl
theorem oa:∀(l:List (Nat × Bt)) (keep:List Bool) (w:Nat × Bt),w∈stay l keep→w∈l
 | [],keep,w,h=>by cases keep <;> simp[stay]at h
 | x::l,[],w,h=>by simp[stay]at h
 | x::l,b::keep,w,h=>by
  simp only[stay,List.mem_append]at h;rcases h with h|h
  ·cases b <;> simp at h;simp[h]
  ·exact List.mem_cons_of_mem _ (oa l keep w h)
def DD.new (qri:Nat)(room:Int):DD:={ room:=room,base:=List.replicate qri none,more:=[],on:=true,qy:=0 }
def DD.off (d:DD):DD:={ d with on:=false,qy:=0 }
def DD.qzs (d:DD)(keep:List Bool):DD:=if d.on then d else { d with base:=qY d.base (stay d.more keep),more:=[],on:=true }
def DD.oper(d:DD):DD:=if d.qy=1 then d.off else if 1<d.qy then { d with qy:=d.qy-1 }else d
def DD.write(d:DD)(at_:Int)(data:Bt):Int × DD :=
 if d.on=false then(6,d)
 else if d.has at_=false∨data.length≠32 then(2,d)
 else if (look d.now at_).isSome=false∧d.room≤(d.used:Int)then(7,d)
 else if d.oper.on=false then(6,d.oper)
 else(0,{ d.oper with more:=d.more++[(at_.toNat,data)] })
def DD.flush(d:DD):Int × DD :=
 if d.on=false then(6,d)
 else if d.oper.on=false then(6,d.oper)
 else(0,{ d.oper with base:=d.now,more:=[] })
def DD.read(d:DD)(at_:Int):Bt × Int :=
 if d.on=false then([],6)
 else if d.has at_=false then([],2)
 else((look d.now at_).getD zz,0)
def fresh (s:qH):List Int→List Int→List Int
 | acc,[]=>acc
 | acc,x::r=>if (look s x).isSome || acc.contains x then fresh s acc r else fresh s (acc++[x]) r
def DD.fits(d:DD)(l:List Int):Bool :=
 l.all d.has&&(decide ((fresh d.now [] l).length=0) || decide (((fresh d.now [] l).length:Int)≤d.room-(d.used:Int)))
end Go.Proofs.YtdpbdkacngaemaaGreatDoor.dk
namespace Go.Proofs.YtdpbdkacngaemaaGreatDoor.dk
open _root_.Go.Proofs.Tryz Go Go.RowKit
abbrev D1:=DataW Unit
def qmT:Value→D1
 | .int k a=>.lit (.int k a)
 | _=>.nil
def tR:Value→Option (D1 × List MemPlace)
 | .agg cs=>some (.agg (cs.toList.map qmT),[])
 | _=>none
def eR (v:Bt):Value:=.agg (Lib.byteCells v).toArray
def qf6 (v:Bt):D1:=.agg ((Lib.byteCells v).map qmT)
theorem od (v:Bt):tR (eR v)=some (qf6 v,[]):=by simp[tR,eR,qf6]
theorem qcK:∀(l:List Value) (v:Bt),l.map qmT=(Lib.byteCells v).map qmT→l=Lib.byteCells v
 | [],[],_=>rfl
 | x::l,[],h=>by simp[Lib.byteCells]at h
 | [],b::v,h=>by simp[Lib.byteCells]at h
 | x::l,b::v,h=>by
  simp only[Lib.byteCells,List.map_cons,List.cons.injEq]at h ⊢;refine⟨?_,qcK l v h.2⟩;have h1:=h.1;cases x <;> simp[qmT]at h1;rw[h1.1,h1.2]
theorem tS {x:Value}{v:Bt}{ps:List MemPlace}(h:tR x=some (qf6 v,ps)):x=eR v:=by
 cases x <;> simp[tR,qf6]at h;rename_i cs;have:=qcK cs.toList v (by simpa using h.1);rw[eR,← this]
theorem qrj:eR zz=.agg #[Value.int IntKind.u8 0,Value.int IntKind.u8 0,Value.int IntKind.u8 0,Value.int IntKind.u8 0,Value.int IntKind.u8 0,Value.int IntKind.u8 0,Value.int IntKind.u8 0,Value.int IntKind.u8 0,Value.int IntKind.u8 0,Value.int IntKind.u8 0,Value.int IntKind.u8 0,Value.int IntKind.u8 0,Value.int IntKind.u8 0,Value.int IntKind.u8 0,Value.int IntKind.u8 0,Value.int IntKind.u8 0,Value.int IntKind.u8 0,Value.int IntKind.u8 0,Value.int IntKind.u8 0,Value.int IntKind.u8 0,Value.int IntKind.u8 0,Value.int IntKind.u8 0,Value.int IntKind.u8 0,Value.int IntKind.u8 0,Value.int IntKind.u8 0,Value.int IntKind.u8 0,Value.int IntKind.u8 0,Value.int IntKind.u8 0,Value.int IntKind.u8 0,Value.int IntKind.u8 0,Value.int IntKind.u8 0,Value.int IntKind.u8 0]:=rfl
def xg (w:World)(m:Nat)(s:qH):Prop :=
 ∃D:D1,w.ownsMap prog 3 tR m (Maps.size D) D∧(∀k:Int,Maps.has D (.int .i64 k)=(look s k).isSome) ∧
  (∀(k:Int) v,look s k=some v→∀z,D.atKey (.int .i64 k) z=qf6 v)∧Maps.size D=cnt s
theorem iJ {w:World}{b n:Nat}{D:D1}{P:Program}{k:TypeId}{R:Value→Option (D1 × List MemPlace)}(h:w.ownsMap P k R b n D):w.ownsMap P k R b (Maps.size D) D:=by
 obtain⟨es,clock,hb,F,_,rfl⟩:=h;exact⟨es,clock,hb,F,by simp[Maps.size,length_sorted],rfl⟩
theorem xg.lt{w:World}{m:Nat}{s:qH}(h:xg w m s):m<w.heap.size:=by
 obtain⟨D,h1,_⟩:=h;exact h1.lt
theorem xg.of_block{w w':World}{m:Nat}{s:qH}(h:xg w m s)(hb:w'.heap[m]?=w.heap[m]?):xg w' m s:=by
 obtain⟨D,⟨es,clock,h1,h2⟩,h3⟩:=h;exact⟨D,⟨es,clock,hb.trans h1,h2⟩,h3⟩
theorem xg.made(w:World)(n:Nat):xg (w.alloc (.map #[] 0)) w.heap.size (List.replicate n none):=by
 have hl:∀k:Int,look (List.replicate n none) k=none:=by
  intro k;unfold look;split
  ·simp only[List.getElem?_replicate];split <;> rfl
  ·rfl
 refine⟨.map [],World.ownsMap_made w prog 3 tR,fun k=>by rw[hl];rfl,fun k v h=>(by rw[hl]at h;cases h),?_⟩;simp[Maps.size,cnt,List.countP_replicate]
theorem qf7(k:Int):WideAt.IsKeyLit (Lit.int .i64 k):=trivial
abbrev keyed:Go.Maps.Keyed prog 3:=Go.Maps.int_keyed underlying3
theorem qrk(k:Int)(h0 : -9223372036854775808≤k)(h1:k≤9223372036854775807):(Lit.int .i64 k).wf=true:=WalkArith.wf_i64 (by omega)
theorem xg.find{w:World}{m:Nat}{s:qH}(h:xg w m s)(k:Int)(h0 : -9223372036854775808≤k)(h1:k≤9223372036854775807) :
    (Instr.lookup 85 (.map (some m)) (.int .i64 k) true).run prog w=.ok (.tuple #[eR ((look s k).getD zz),.bool (look s k).isSome]) w ∧
    (Instr.lookup 85 (.map (some m)) (.int .i64 k) false).run prog w=.ok (eR ((look s k).getD zz)) w:=by
 obtain⟨D,hown,hh,ha,_⟩:=h;have hkey:=Go.Maps.keyOf_int_mk (P:=prog) (k:=3) underlying3 (qrk k h0 h1);have hz:(zeroValue 146).run prog w=.ok (eR zz) w:=by rw[qrj];exact zeroValue146 w
 have hat:D.atKey (.int .i64 k) (qf6 zz)=qf6 ((look s k).getD zz):=by
  cases hx:look s k with
  | none=>exact Maps.atKey_of_not_has (by rw[hh,hx];rfl) _
  | some v=>exact ha k v hx _
 obtain⟨v,ps,hrun,hv⟩:=hown.look_ok keyed underlying85 hz (od zz) hkey;obtain⟨v2,ps2,lN,hv2⟩:=hown.lookup keyed underlying85 hz (od zz) hkey;rw[hat]at hv hv2;rw[tS hv,hh]at hrun;rw[tS hv2]at lN;exact⟨hrun,lN⟩
theorem xg.len{w:World}{m:Nat}{s:qH}(h:xg w m s)(ty:TypeId):(Builtin.len_ #[85] ty #[.map (some m)]).run prog w=.ok (.int .i64 (cnt s:Int)) w:=by
 obtain⟨D,hown,_,_,hc⟩:=h;rw[← hc];exact hown.len underlying85 ty
theorem og {a b:Int}(h:a≠b):(Lit.int .i64 a)≠Lit.int .i64 b:=fun e=>h (by injection e)
theorem xg.store{w:World}{m:Nat}{s:qH}(h:xg w m s)(k:Nat)(v:Bt)(hk:k<s.length)(h1:s.length≤1024) :
    ∃w',(Instr.mapUpdate 85 (.map (some m)) (.int .i64 (k:Int)) (eR v)).run prog w=.ok () w'∧xg w' m (put s k v)∧w.mapTurned w' m:=by
 obtain⟨D,hown,hh,ha,hc⟩:=h;have hkey:=Go.Maps.keyOf_int_mk (P:=prog) (k:=3) underlying3 (qrk (k:Int) (by omega) (by omega));have hti:=hown.tidy keyed;have hcl:=qaT s;obtain⟨w',hrun,r1,r2⟩:=hown.store keyed underlying85 (by unfold maxLen;omega) hkey (od v);refine⟨w',hrun,⟨_,iJ r1,?_,?_,?_⟩,r2⟩
 ·intro j;by_cases e:j=(k:Int)
  ·subst e;rw[Maps.has_put_same hti.isMap (qf7 _),put,zG _ _ _ hk];rfl
  ·rw[Maps.has_put_other (og e),put,zV _ _ _ _ e,hh]
 ·intro j u hu z;by_cases e:j=(k:Int)
  ·subst e;rw[put,zG _ _ _ hk]at hu;injection hu with hu
   subst hu;exact Maps.atKey_put_same hti.isMap (qf7 _) _ _
  ·rw[put,zV _ _ _ _ e]at hu;rw[Maps.atKey_put_other (og e)];exact ha j u hu z
 ·rw[Maps.size_put hti,put,wV _ _ _ hk,hh,hc]
theorem xg.drop{w:World}{m:Nat}{s:qH}(h:xg w m s)(k:Nat)(hk:k<s.length)(h1:s.length≤1024)(ty:TypeId) :
    ∃w',(Builtin.delete_ #[85,3] ty #[.map (some m),.int .i64 (k:Int)]).run prog w=.ok (.tuple #[]) w'∧xg w' m (s.set k none)∧w.mapTurned w' m:=by
 obtain⟨D,hown,hh,ha,hc⟩:=h;have hkey:=Go.Maps.keyOf_int_mk (P:=prog) (k:=3) underlying3 (qrk (k:Int) (by omega) (by omega));have hti:=hown.tidy keyed;obtain⟨w',hrun,r1,r2⟩:=hown.drop keyed underlying85 hkey ty;refine⟨w',hrun,⟨_,iJ r1,?_,?_,?_⟩,r2⟩
 ·intro j;by_cases e:j=(k:Int)
  ·subst e;rw[Maps.has_del_same,zG _ _ _ hk];rfl
  ·rw[Maps.has_del_other (og e),zV _ _ _ _ e,hh]
 ·intro j u hu z;by_cases e:j=(k:Int)
  ·subst e;rw[zG _ _ _ hk]at hu;cases hu
  ·rw[zV _ _ _ _ e]at hu;rw[Maps.atKey_del_other (og e)];exact ha j u hu z
 ·have g1:=Maps.size_del (k:=.int .i64 (k:Int)) hti;have g2:=qaS s k hk;rw[hh]at g1;omega
def qf (w:World)(g:Nat)(t:TypeId)(cs:Array Value):Prop:=w.heap[g]?=some (.cells cs t (0,0))
section
variable {w w':World} {g:Nat} {t:TypeId} {cs:Array Value}
theorem qf.lt(h:qf w g t cs):g<w.heap.size:=by
 unfold qf at h;exact(Array.getElem?_eq_some_iff.1 h).1
theorem qf.cell(h:qf w g t cs)(i:Nat):w.cell? ⟨g,i,none⟩=cs[i]? :=cell_of_row w g i cs t (0,0) h
theorem qf.frozen(h:qf w g t cs)(i:Nat):w.frozen? ⟨g,i,none⟩=false:=by
 unfold qf at h;simp[World.frozen?,h]
theorem qf.new(w:World)(t:TypeId)(cs:Array Value):qf (w.alloc (.cells cs t)) w.heap.size t cs:=heap_alloc_new w _
theorem qf.of_block(h:qf w g t cs)(hb:w'.heap[g]?=w.heap[g]?):qf w' g t cs:=hb.trans h
theorem qf.qg(h:qf w g t cs)(i:Nat)(u:Value):qf (w.setCell ⟨g,i,none⟩ u) g t (cs.setIfInBounds i u):=heap_setCell_same w g i cs t u h
end
structure qz(S:Nat→Prop)(w w':World):Prop where
 os:w'.os=w.os
 tape:w'.tape=w.tape
 output:w'.output=w.output
 size:w.heap.size≤w'.heap.size
 block:∀k,k<w.heap.size→¬ S k→w'.heap[k]?=w.heap[k]?
section
variable {S S':Nat→Prop} {a b c w w':World}
theorem qz.refl(S:Nat→Prop)(w:World):qz S w w:=⟨rfl,rfl,rfl,Nat.le_refl _,fun _ _ _=>rfl⟩
theorem qz.trans(h:qz S a b)(k:qz S' b c)(hs:∀i,S' i→S i∨a.heap.size≤i):qz S a c :=
 ⟨k.os.trans h.os,k.tape.trans h.tape,k.output.trans h.output,Nat.le_trans h.size k.size,fun i hi hn=>by
  refine(k.block i (Nat.lt_of_lt_of_le hi h.size) (fun e=>?_)).trans (h.block i hi hn);rcases hs i e with h1|h1
  ·exact hn h1
  ·omega⟩
theorem qz.mono(h:qz S w w')(hs:∀i,S i→S' i):qz S' w w':=⟨h.os,h.tape,h.output,h.size,fun k hk hn=>h.block k hk (fun e=>hn (hs k e))⟩
theorem qz.of_below(h:Below w.heap.size w w'):qz S w w':=⟨h.os,h.tape,h.output,h.size,fun k hk _=>h.block k hk⟩
theorem qz.qcL{row:Option Nat}(h:w.grownBy w' row)(hs:∀k,row=some k→S k):qz S w w' :=
 ⟨h.os,h.tape,h.output,h.size,fun k hk hn=>h.block k hk (fun e=>hn (hs k e.symm))⟩
theorem qz.drew(h:qz S a w):qz S a w.drew:=⟨h.os,h.tape,h.output,h.size,h.block⟩
theorem qz.drewN(h:qz S a w)(n:Nat):qz S a (w.drewN n):=⟨h.os,h.tape,h.output,h.size,h.block⟩
theorem qz.alloc(h:qz S a w)(o:Obj):qz S a (w.alloc o) :=
 h.trans (S':=fun _=>False) ⟨rfl,rfl,rfl,by simp,fun k hk _=>Below.heap_alloc _ _ _ hk⟩ (fun _ e=>e.elim)
theorem qz.setCell(h:qz S a w)(p:Addr)(u:Value)(hp:S p.block∨a.heap.size≤p.block):qz S a (w.setCell p u) :=
 h.trans (S':=fun k=>k=p.block) ⟨rfl,rfl,rfl,by simp[World.setCell],fun k _ hn=>Below.heap_setCell _ _ _ _ hn⟩ (fun i e=>by rw[e];exact hp)
theorem qz.grown{row:Option Nat}(h:qz S a w)(hg:w.grownBy w' row)(hs:∀k,row=some k→S k∨a.heap.size≤k):qz S a w' :=
 h.trans (S':=fun k=>row=some k) (qz.qcL hg (fun _ e=>e)) hs
theorem qz.below{B:Nat}(h:qz S a w)(hs:∀i,S i→B≤i)(hB:B≤a.heap.size):Below B a w :=
 ⟨h.os,h.tape,h.output,h.size,fun k hk=>h.block k (by omega) (fun e=>by have:=hs k e;omega)⟩
end
def qo (x:Nat × Bt × Bt × Bool):List Value:=.int .i64 (x.1:Int)::(Lib.byteCells x.2.1++(Lib.byteCells x.2.2.1++[.bool x.2.2.2]))
def wj (l:List (Nat × Bt × Bt × Bool)):List Value:=l.flatMap qo
theorem ym {w w':World}{base e size n:Nat}{v:Value}{xs:List Value}(h:w.ownsRow base e size v n xs)(hb:∀k,v.ownBlock=some k→w'.heap[k]?=w.heap[k]?):w'.ownsRow base e size v n xs:=by
 refine⟨h.1,?_⟩;rcases h.2 with hn|⟨g,cap,cur,rfl,h1,h2,r⟩
 ·exact .inl hn
 ·exact .inr ⟨g,cap,cur,rfl,h1,(hb g rfl).trans h2,r⟩
theorem iK {w:World}{base e size n:Nat}{v:Value}{xs:List Value}(h:w.ownsRow base e size v n xs):∀k,v.ownBlock=some k→k<w.heap.size:=by
 intro k hk;rcases h.2 with⟨rfl,_⟩|⟨g,cap,cur,rfl,h1,h2,r⟩
 ·cases hk
 ·simp[Value.ownBlock]at hk;subst hk;exact(Array.getElem?_eq_some_iff.1 h2).1
def uI (w:World)(own:Nat→Prop)(p m:Nat)(v:Value)(d:DD):Prop :=
 qf w p 88 #[.int .i64 (d.n:Int),.int .i64 d.room,.map (some m),v,.bool d.on,.int .i64 d.qy]∧xg w m d.now ∧
 w.ownsRow 0 148 66 v d.more.length (wj (iI d.base d.more)) ∧
 own p∧own m∧(∀k,v.ownBlock=some k→own k)∧(∀k,own k→k<w.heap.size)
def zP (most:Nat)(w:World)(own:Nat→Prop)(p:Nat)(d:DD):Prop:=d.ok most∧∃m v,uI w own p m v d
theorem uI.ne{w:World}{own:Nat→Prop}{p m:Nat}{v:Value}{d:DD}(h:uI w own p m v d):p≠m∧(∀k,v.ownBlock=some k→k≠p∧k≠m):=by
 obtain⟨h1,⟨D,⟨es,clock,h2,_⟩,_⟩,h3,_⟩:=h;unfold qf at h1;refine⟨?_,?_⟩
 ·rintro rfl;rw[h1]at h2;cases h2
 ·intro k hk;rcases h3.2 with⟨rfl,_⟩|⟨g,cap,cur,rfl,_,hg,_⟩
  ·cases hk
  ·simp[Value.ownBlock]at hk;subst hk;refine⟨?_,?_⟩
   ·rintro rfl;rw[h1]at hg;simp only[Option.some.injEq,Obj.cells.injEq]at hg;exact absurd hg.2.1 (by decide)
   ·rintro rfl;rw[h2]at hg;cases hg
theorem uI.keep{w w':World}{own:Nat→Prop}{p m:Nat}{v:Value}{d:DD}(h:uI w own p m v d)(hs:w.heap.size≤w'.heap.size)(hb:∀k,own k→w'.heap[k]?=w.heap[k]?):uI w' own p m v d:=by
 obtain⟨h1,h2,h3,hp,hm,hv,hl⟩:=h;exact⟨h1.of_block (hb _ hp),h2.of_block (hb _ hm),ym h3 (fun k hk=>hb k (hv k hk)),hp,hm,hv,fun k hk=>Nat.lt_of_lt_of_le (hl k hk) hs⟩
theorem zP.keep{most:Nat}{w w':World}{own:Nat→Prop}{p:Nat}{d:DD}(h:zP most w own p d)(hs:w.heap.size≤w'.heap.size)(hb:∀k,own k→w'.heap[k]?=w.heap[k]?):zP most w' own p d:=by
 obtain⟨h0,m,v,h1⟩:=h;exact⟨h0,m,v,h1.keep hs hb⟩
def vh (own yI:Nat→Prop)(w:World):Prop:=∀k,yI k→own k∨w.heap.size≤k
theorem vh.refl(own:Nat→Prop)(w:World):vh own own w:=fun _ h=>.inl h
def xy (most:Nat)(own:Nat→Prop)(p:Nat)(d:DD)(r:Value)(w:World)(e:Ending)(w':World):Prop :=
 e=.returned r∧∃yI,zP most w' yI p d∧qz own w w'∧vh own yI w
end Go.Proofs.YtdpbdkacngaemaaGreatDoor.dk
namespace Go.Proofs.YtdpbdkacngaemaaGreatDoor.dk
open _root_.Go.Proofs.Tryz Go Go.RowKit
theorem qmU{ρ:Operand→Value}{o:Oper}{w:World}{b:Nat}{s:qH}(x:Operand)(ho:o.op=.call { callee:=.builtin .len,args:=#[x],argTypes:=#[85] })(hx:ρ x=.map (some b))(h:xg w b s) :
    (execOp ρ o).run prog w=.ok (.value (.int .i64 (cnt s:Int))) w:=by
 simp[execOp,ho,resolve,invoke,builtin,hx,h.len o.type,Result.andThen]
theorem wW {ρ:Operand→Value}{o:Oper}{w:World}{b:Nat}{s:qH}(x y:Operand)(ho:o.op=.lookup 85 x y true)(hx:ρ x=.map (some b))(h:xg w b s)
    (k:Int) (hy:ρ y=.int .i64 k) (h0 : -9223372036854775808≤k) (h1:k≤9223372036854775807) :
    (execOp ρ o).run prog w=.ok (.value (.tuple #[eR ((look s k).getD zz),.bool (look s k).isSome])) w:=by
 simp[execOp,ho,hx,hy,(h.find k h0 h1).1,Result.andThen]
theorem qja{ρ:Operand→Value}{o:Oper}{w:World}{b:Nat}{s:qH}(x y:Operand)(ho:o.op=.lookup 85 x y false)(hx:ρ x=.map (some b))(h:xg w b s)
    (k:Int) (hy:ρ y=.int .i64 k) (h0 : -9223372036854775808≤k) (h1:k≤9223372036854775807) :
    (execOp ρ o).run prog w=.ok (.value (eR ((look s k).getD zz))) w:=by
 simp[execOp,ho,hx,hy,(h.find k h0 h1).2,Result.andThen]
theorem mK {ops:Array Oper}{rest:List Oper}{o:Oper}{a:Act}{w:World}{Q:Exit→Act→World→Prop}{b:Nat}{s:qH}(hg:o.guard=none)(x y z:Operand)(ho:o.op=.mapUpdate 85 x y z)(hx:a.eval x=.map (some b))(h:xg w b s)
    (k:Nat) (hy:a.eval y=.int .i64 (k:Int)) (v:Bt) (hz:a.eval z=eR v) (hk:k<s.length) (h1:s.length≤1024)
    (hK:∀w',xg w' b (put s k v)→w.mapTurned w' b→wpList prog ops Q rest (a.put o.dst undef) w'):wpList prog ops Q (o::rest) a w:=by
 refine wpList_plain hg fun K' hK'=>?_;obtain⟨w',hrun,r1,r2⟩:=h.store k v hk h1;unfold Oper.wp;simp[execOp,ho,hx,hy,hz,hrun,Result.andThen];exact hK' _ _ (hK w' r1 r2)
theorem uJ {w w':World}{b:Nat}(h:w.mapTurned w' b):qz (fun k=>k=b) w w':=qz.qcL h.grown (fun _ e=>by injection e with e;exact e.symm)
theorem zJ {ρ:Operand→Value}{o:Oper}{P:Program}(w:World)(t:TypeId)(c c':Array Value)(x y:Operand)(ho:o.op=.store t x y)(hx:ρ x=.pointer (some ⟨w.heap.size,0,none⟩))(hy:ρ y=.agg c')
    (hi:(P.info? t).map (·.size)=some c'.size) (hoc:c.size=c'.size) (h1:c'.all (·.oneCell')=true) :
    (execOp ρ o).run P (w.alloc (.cells c t))=.ok .skip (w.alloc (.cells c' t)):=by
 have hr:=run_storeAt_new (P:=P) w t c c' hi hoc h1;simp[execOp,ho,hx,hy,hr,Result.andThen]
theorem iL (q:Bt):(Lib.byteCells q).toArray.all (·.oneCell')=true:=by
 rw[Array.all_eq_true'];intro u hu;exact Lib.byteCells_one q u (by simpa using hu)
theorem oh:(prog.info? 146).map (·.size)=some 32:=by kernel_rfl
theorem yT {P:Program}(w:World)(g o:Nat)(t ty:TypeId)(cs:Array Value)(xs:List Value)(fr:Nat × Nat)(d:TypeDesc)(hg:w.heap[g]?=some (.cells cs t fr))
    (hu:P.underlying ty=some d) (hd:(match d with | .struct _ | .array _ _=>true|_=>false)=true) (hi:(P.info? ty).map (·.size)=some xs.length) (hx:∀j u,xs[j]?=some u→cs[o+j]?=some u) :
    (loadVar ty ⟨g,o,none⟩).run P w=.ok (.agg xs.toArray) w:=by
 have hl:(loadCells ⟨g,o,none⟩ xs.length).run P w=.ok xs.toArray w :=
  run_loadCells_list (P:=P) w ⟨g,o,none⟩ xs (fun j v hv=>by
   rw[addr_add,cell_of_row w g (o+j) cs t fr hg];exact hx j v hv)
 cases hq:P.info? ty with
 | none=>simp[hq]at hi
 | some i =>
  have hs:i.size=xs.length:=by simpa[hq]using hi
  have hagg:(isAgg ty).run P w=.ok true w:=by
   unfold isAgg;rw[Sem.run_bind,run_underlying hu w];cases d <;> simp_all
  simp[loadVar,Sem.run_bind,hagg,sizeOf,typeInfo,hq,hs,hl]
theorem qU {ρ:Operand→Value}{o:Oper}{P:Program}{w:World}(ty:TypeId)(x:Operand)(ho:o.op=.load ty x)(g i:Nat)(hx:ρ x=.pointer (some ⟨g,i,none⟩))(t:TypeId)(cs:Array Value)(xs:List Value)(fr:Nat × Nat)(d:TypeDesc)
    (hg:w.heap[g]?=some (.cells cs t fr)) (hu:P.underlying ty=some d) (hd:(match d with | .struct _ | .array _ _=>true|_=>false)=true) (hi:(P.info? ty).map (·.size)=some xs.length) (hc:∀j u,xs[j]?=some u→cs[i+j]?=some u) :
    (execOp ρ o).run P w=.ok (.value (.agg xs.toArray)) w:=by
 simp only[execOp,ho,hx,Instr.loadAt,Instr.sureAddr,Sem.run_bind,Sem.run_pure,Result.andThen_ok,yT w g i t ty cs xs fr d hg hu hd hi hc]
section
variable {w:World} {p m:Nat} {v:Value} {d:DD} {own:Nat→Prop}
theorem kq {t:TypeId}{a b c e f g:Value}(h:qf w p t #[a,b,c,e,f,g]) :
    w.cell? ⟨p,0,none⟩=some a∧w.cell? ⟨p,1,none⟩=some b∧w.cell? ⟨p,2,none⟩=some c∧w.cell? ⟨p,3,none⟩=some e∧w.cell? ⟨p,4,none⟩=some f∧w.cell? ⟨p,5,none⟩=some g :=
 ⟨h.cell 0,h.cell 1,h.cell 2,h.cell 3,h.cell 4,h.cell 5⟩
theorem qaU(h:uI w own p m v d) :
    Calls prog 43 #[.pointer (some ⟨p,0,none⟩)] w fun e w'=>e=.returned (.int .i64 (d.n:Int))∧w=w':=by
 obtain⟨c0,c1,c2,c3,c4,c5⟩:=kq h.1;clear h c1 c2 c3 c4 c5;go_enter func43,ntmps43;go_wp2;go_ret;exact⟨rfl,rfl⟩
theorem qmW(h:uI w own p m v d) :
    Calls prog 39 #[.pointer (some ⟨p,0,none⟩)] w fun e w'=>e=.returned (.bool d.on)∧w=w':=by
 obtain⟨c0,c1,c2,c3,c4,c5⟩:=kq h.1;clear h c1 c2 c3 c0 c5;go_enter func39,ntmps39;go_wp2;go_ret;exact⟨rfl,rfl⟩
theorem kB (h:uI w own p m v d)(k:Int) :
    Calls prog 197 #[.pointer (some ⟨p,0,none⟩),.int .i64 k] w fun e w'=>e=.returned (.bool (d.has k))∧w=w':=by
 obtain⟨c0,c1,c2,c3,c4,c5⟩:=kq h.1;clear h c1 c2 c3 c4 c5;have H:Hid (d.has k=(decide (0≤k)&&decide (k<(d.n:Int)))):=rfl;generalize d.has k=q at *;generalize (d.n:Int)=n at *;by_cases h0:0≤k
 ·by_cases h1:k<n
  ·have hq:q=true:=by rw[H.out];simp[h0,h1]
   clear H;subst hq;go_enter func197,ntmps197;go_wp2;go_ret;exact⟨rfl,rfl⟩
  ·have hq:q=false:=by rw[H.out];simp[h1]
   have h1':n≤k:=by omega
   clear H;subst hq;go_enter func197,ntmps197;go_wp2;go_ret;exact⟨rfl,rfl⟩
 ·have hq:q=false:=by rw[H.out];simp[h0]
  have h0':k<0:=by omega
  clear H;subst hq;go_enter func197,ntmps197;go_wp2;go_ret;exact⟨rfl,rfl⟩
theorem uI.turn{w':World}{d':DD}(h:uI w own p m v d)(hb:d'.base=d.base)(hm:d'.more=d.more)
    (hk:qf w' p 88 #[.int .i64 (d'.n:Int),.int .i64 d'.room,.map (some m),v,.bool d'.on,.int .i64 d'.qy]) (hs:w.heap.size≤w'.heap.size) (hr:∀k,k<w.heap.size→k≠p→w'.heap[k]?=w.heap[k]?):uI w' own p m v d':=by
 obtain⟨hpm,hv⟩:=h.ne;obtain⟨h1,h2,h3,hp,hm',hvo,hl⟩:=h;refine⟨hk,?_,?_,hp,hm',hvo,fun k hk=>Nat.lt_of_lt_of_le (hl k hk) hs⟩
 ·have:d'.now=d.now:=by unfold DD.now;rw[hb,hm]
  rw[this];exact h2.of_block (hr _ (hl _ hm') (fun e=>hpm e.symm))
 ·rw[hb,hm];exact ym h3 (fun k hk=>hr k (hl k (hvo k hk)) (hv k hk).1)
theorem xA (w:World)(p i:Nat)(u:Value)(k:Nat)(h:k≠p):(w.setCell ⟨p,i,none⟩ u).heap[k]?=w.heap[k]? :=Below.heap_setCell _ _ _ _ h
theorem size_set(w:World)(p:Addr)(u:Value):(w.setCell p u).heap.size=w.heap.size:=by simp[World.setCell]
theorem qrl{most:Nat}(h:zP most w own p d) :
    Calls prog 20 #[.pointer (some ⟨p,0,none⟩)] w (xy most own p d.off (.tuple #[]) w):=by
 obtain⟨h0,m,v,h1⟩:=h;have H:=QH h1;have H0:=QH h0;obtain⟨c0,c1,c2,c3,c4,c5⟩:=kq h1.1;have f4:=h1.1.frozen 4;have f5:=h1.1.frozen 5;clear h1 h0;go_enter func20,ntmps20;go_wp2
 go_end0
 refine⟨rfl,own,⟨{ H0.out with qhB:=Int.le_refl _,qhC:=(by show(0:Int)≤_;omega) },m,v,?_⟩,((qz.refl _ _).setCell _ _ (.inl H.out.2.2.2.1)).setCell _ _ (.inl H.out.2.2.2.1),vh.refl _ _⟩;refine H.out.turn (d':=d.off) rfl rfl ((H.out.1.qg 4 _).qg 5 _) (by simp[size_set]) (fun k _ hk=>?_);rw[xA _ _ _ _ _ hk,xA _ _ _ _ _ hk]
theorem oq {most:Nat}(h:zP most w own p d)(xa:d.on=true) :
    Calls prog 257 #[.pointer (some ⟨p,0,none⟩)] w (xy most own p d.oper (.bool d.oper.on) w):=by
 have hd0:=QH h;obtain⟨h0,m,v,h1⟩:=h;have H:=QH h1;have H0:=QH h0;have f5:=h1.1.frozen 5;obtain⟨c0,c1,c2,c3,c4,c5⟩:=kq h1.1;have b0:=h0.qhB;have b1:=h0.qhC;rw[xa]at c4;clear h1 h0;by_cases e1:d.qy=1
 ·have hop:d.oper=d.off:=by unfold DD.oper;rw[if_pos e1]
  rw[hop];rw[e1]at c5;have hd1:zP most (w.setCell ⟨p,5,none⟩ (.int .i64 0)) own p { d with qy:=0 } :=
   ⟨{ H0.out with qhB:=Int.le_refl _,qhC:=(by show(0:Int)≤_;omega) },m,v,H.out.turn (d':={ d with qy:=0 }) rfl rfl (H.out.1.qg 5 _) (by simp[size_set]) (fun k _ hk=>xA _ _ _ _ _ hk)⟩
  have qzt:=QH (qrl hd1);have E1:=QH e1;clear e1 hop hd1 b0 b1;go_enter func257,ntmps257;go_wp2_with (go_at_call 20;refine qzt.out.mono ?_);rintro e w2 ⟨rfl,yI,hd2,hb2,hg2⟩;obtain⟨_,m2,v2,h2⟩:=hd2;have HD2:Hid (zP most w2 yI p d.off):=⟨by assumption,m2,v2,h2⟩;obtain⟨g0,g1,g2,g3,g4,g5⟩:=kq h2.1;clear h2 qzt;go_wp2;go_ret;exact⟨rfl,yI,HD2.out,((qz.refl own w).setCell _ _ (.inl H.out.2.2.2.1)).trans hb2 (fun i h=>.inl h),fun k hk=>by
   rcases hg2 k hk with h|h
   ·exact .inl h
   ·rw[size_set]at h;exact .inr h⟩
 ·by_cases e2:1<d.qy
  ·have hop:d.oper={ d with qy:=d.qy-1 }:=by unfold DD.oper;rw[if_neg e1,if_pos e2]
   rw[hop];have e0:0<d.qy:=by omega
   have e3:((d.qy-1:Int) == 0)=false:=by rw[beq_eq_false_iff_ne];omega
   clear e1;go_enter func257,ntmps257;go_wp2;go_ret;refine⟨(by rw[xa];rfl),own,⟨{ H0.out with qhB:=by simp only;omega,qhC:=by simp only;omega },m,v,?_⟩,(qz.refl _ _).setCell _ _ (.inl H.out.2.2.2.1),vh.refl _ _⟩;refine H.out.turn (d':={ d with qy:=d.qy-1 }) rfl rfl ?_ (by simp[size_set]) (fun k _ hk=>xA _ _ _ _ _ hk);exact H.out.1.qg 5 _
  ·have hop:d.oper=d:=by unfold DD.oper;rw[if_neg e1,if_neg e2]
   rw[hop];have e0:d.qy=0:=by omega
   rw[e0]at c5;clear e1 e2;have E0:=QH e0;clear e0 b0 b1;go_enter func257,ntmps257;go_wp2;go_ret;exact⟨(by rw[xa];rfl),own,hd0.out,qz.refl _ _,vh.refl _ _⟩
end
end Go.Proofs.YtdpbdkacngaemaaGreatDoor.dk

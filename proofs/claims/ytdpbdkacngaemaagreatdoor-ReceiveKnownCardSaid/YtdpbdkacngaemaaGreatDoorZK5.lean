/- MtDs, MgTake, MgLay, MgSame, MgChk, MtAbove, ImRefI, ImRefC, MtChk. -/
import Derived.Test.YtdpbdkacngaemaaGreatDoorZK4
import Derived.Laws.EntriesVeiled
import Derived.Lib.QuietBelow
import Derived.Laws.AppendOwnNone
set_option linter.unusedVariables false
set_option linter.unusedSimpArgs false
set_option maxHeartbeats 30000000
set_option maxRecDepth 100000
namespace Go.Proofs.YtdpbdkacngaemaaGreatDoor.mt
open _root_.Go.Proofs.Tryz Go Go.RowKit ib wi
def mC (v0 v1 v2:Value)(t:Tk):Array Value:=#[v0,v1,.int .u64 (t.base.1:Int),.int .u64 (t.base.2:Int),.int .u64 (t.target.1:Int),.int .u64 (t.target.2:Int),.int .i64 t.next,.int .i64 t.all,v2]
abbrev aq:Value:=.slice none 0 0
structure DS(w W:World)(p c gm b:Nat)(s:St)(v0 v1 v2:Value)(l:List Int)(xs:List aZ)(t:Tk):Prop where
 below:Below w.heap.size w W
 rs:RS W p c b s
 m:qh W gm 103 (mC v0 v1 v2 t)
 res:qh W w.heap.size 103 (mC aq aq aq yg)
 live:qV W w.heap.size v0 l
 row:vG W w.heap.size v1 xs
 qp:qV W w.heap.size v2 t.qp
 pn:w.heap.size≤p
 cn:w.heap.size≤c
 gn:w.heap.size<gm
theorem QS.blk{w:World}{c:Nat}{s:St}(h:QS w c s):∃x,qh w c 208 x:=by
 unfold QS at h;split at h
 ·obtain⟨q,h1,_⟩:=h;exact⟨_,h1⟩
 ·obtain⟨q,_,h1,_⟩:=h;exact⟨_,h1⟩
theorem RS.kp{w w':World}{p c b:Nat}{s:St}(h:RS w p c b s)(hb:qB (Tc c) w w'):Kp 208 w w':=by
 obtain⟨x,hx⟩:=h.left.blk;exact Kp.ld hb hx
section
variable {w W W':World} {p c gm b:Nat} {s s':St} {v0 v1 v2:Value} {l:List Int} {xs:List aZ} {t:Tk}
theorem DS.quN{r:TypeId}(h:DS w W p c gm b s v0 v1 v2 l xs t)(hk:Kp r W W')(hb:Below w.heap.size w W')(hr:RS W' p c b s')(h1:103≠r)(h2:3≠r)(h3:141≠r):DS w W' p c gm b s' v0 v1 v2 l xs t :=
 ⟨hb,hr,hk _ _ _ h1 h.m,hk _ _ _ h1 h.res,kI h.live hk h2,h.row.kp hk h3 h2,kI h.qp hk h2,h.pn,h.cn,h.gn⟩
theorem DS.turn(h:DS w W p c gm b s v0 v1 v2 l xs t)(hb:qB (Tc c) W W')(hr:RS W' p c b s'):DS w W' p c gm b s' v0 v1 v2 l xs t :=
 h.quN (h.rs.kp hb) (h.below.trans (hb.below (B:=w.heap.size) (fun i hi=>by unfold Tc at hi;rw[hi];exact h.cn) h.below.size)) hr (by decide) (by decide) (by decide)
theorem DS.qiE{t':Tk}{v2':Value}(h:DS w W p c gm b s v0 v1 v2 l xs t)(k:Nat)(u:Value)(hm:(mC v0 v1 v2 t).setIfInBounds k u=mC v0 v1 v2' t')(hi:qV W w.heap.size v2' t'.qp) :
    DS w (W.setCell ⟨gm,k,none⟩ u) p c gm b s v0 v1 v2' l xs t':=by
 have hk2:=Kp.uA k u h.m;have hb2:Below w.heap.size w (W.setCell ⟨gm,k,none⟩ u):=h.below.setCell (p:=⟨gm,k,none⟩) (Nat.le_of_lt h.gn) u;obtain⟨y,hy⟩:=h.rs.left.blk;refine⟨hb2,⟨hk2 _ _ _ (by decide) h.rs.blk,h.rs.ne,h.rs.left.block (qw _ _ _ _ _ (kH hy h.m (by decide)))⟩,?_,h.res.of_block (qw _ _ _ _ _ (by have:=h.gn;omega)),kI h.live hk2 (by decide),h.row.kp hk2 (by decide) (by decide),kI hi hk2 (by decide),h.pn,h.cn,h.gn⟩;rw[← hm];exact h.m.qu k u
def xF (W:World)(gm:Nat)(v2:Value)(t:Tk):World :=
 ((((((W.setCell ⟨gm,2,none⟩ (.int .u64 (t.base.1:Int))).setCell ⟨gm,3,none⟩ (.int .u64 (t.base.2:Int))).setCell ⟨gm,4,none⟩ (.int .u64 (t.target.1:Int))).setCell ⟨gm,5,none⟩ (.int .u64 (t.target.2:Int))).setCell ⟨gm,6,none⟩ (.int .i64 t.next)).setCell ⟨gm,7,none⟩ (.int .i64 t.all)).setCell ⟨gm,8,none⟩ v2
theorem DS.tok{t':Tk}{v2':Value}(h:DS w W p c gm b s v0 v1 aq l xs yg)(hi:qV W w.heap.size v2' t'.qp):DS w (xF W gm v2' t') p c gm b s v0 v1 v2' l xs t':=by
 have go:∀(k:Nat) (u:Value) {W:World} {t t2:Tk} {v v':Value},DS w W p c gm b s v0 v1 v l xs t→qV W w.heap.size v2' t'.qp→qV W w.heap.size v' t2.qp→(mC v0 v1 v t).setIfInBounds k u=mC v0 v1 v' t2→DS w (W.setCell ⟨gm,k,none⟩ u) p c gm b s v0 v1 v' l xs t2∧qV (W.setCell ⟨gm,k,none⟩ u) w.heap.size v2' t'.qp:=fun k u {W t t2 v v'} h1 h2 h3 h4 =>
  ⟨h1.qiE k u h4 h3,kI h2 (Kp.uA k u h1.m) (by decide)⟩
 obtain⟨h1,i1⟩:=go 2 (.int .u64 (t'.base.1:Int)) (t2:=⟨(t'.base.1,0),(0,0),0,0,[]⟩) (v':=aq) h hi (wO _ _) rfl;obtain⟨h2,i2⟩:=go 3 (.int .u64 (t'.base.2:Int)) (t2:=⟨t'.base,(0,0),0,0,[]⟩) (v':=aq) h1 i1 (wO _ _) rfl;obtain⟨h3,i3⟩:=go 4 (.int .u64 (t'.target.1:Int)) (t2:=⟨t'.base,(t'.target.1,0),0,0,[]⟩) (v':=aq) h2 i2 (wO _ _) rfl;obtain⟨h4,i4⟩:=go 5 (.int .u64 (t'.target.2:Int)) (t2:=⟨t'.base,t'.target,0,0,[]⟩) (v':=aq) h3 i3 (wO _ _) rfl;obtain⟨h5,i5⟩:=go 6 (.int .i64 t'.next) (t2:=⟨t'.base,t'.target,t'.next,0,[]⟩) (v':=aq) h4 i4 (wO _ _) rfl;obtain⟨h6,i6⟩:=go 7 (.int .i64 t'.all) (t2:=⟨t'.base,t'.target,t'.next,t'.all,[]⟩) (v':=aq) h5 i5 (wO _ _) rfl;exact(go 8 v2' (t2:=t') (v':=v2') h6 i6 i6 rfl).1
end
structure p8(l:List Int)(xs:List Sp):Prop where
 live:ya l
 sn:∀x∈xs,ya x.qp∧zV x.g∧x.qp.length≤100
 nl:l.length≤100
 nx:xs.length≤100
structure bp(t:Tk):Prop where
 qp:ya t.qp
 few:t.qp.length≤100
 base:zV t.base
 target:zV t.target
 next:qA t.next
 all:qA t.all
theorem qqP:bp yg:=⟨fun z hz=>absurd hz (by simp[yg]),by simp[yg],aQ,aQ,by unfold qA yg;simp,by unfold qA yg;simp⟩
theorem qe4{W:World}{B:Nat}{v0 v1 v2:Value}{l:List Int}{xs:List aZ}{t:Tk}(h0:qV W B v0 l)(h1:vG W B v1 xs)(h2:qV W B v2 t.qp)(hf:p8 l (xs.map (·.1)))(ht:bp t):nR W (.agg (mC v0 v1 v2 t)) ⟨l,xs.map (·.1),t⟩:=by
 have i64:∀ {z:Int},0≤z∧z≤1048576→qA z:=fun h=>by unfold qA;omega
 have hsn:∀x∈xs,ya x.1.qp∧zV x.1.g:=fun x hx=>⟨(hf.sn _ (List.mem_map_of_mem hx)).1,(hf.sn _ (List.mem_map_of_mem hx)).2.1⟩;obtain⟨A0,c0,rfl,g0⟩:=qes h0 (fun z hz=>i64 (hf.live z hz));obtain⟨A2,c2,rfl,g2⟩:=qes h2 (fun z hz=>i64 (ht.qp z hz));obtain⟨A1,c1,rfl,g1,hr⟩:=h1.view (fun x hx' z hz=>i64 ((hsn x hx').1 z hz)) (fun x hx'=>(hsn x hx').2);exact⟨A0,A1,A2,c0,c1,c2,rfl,g0,g1,hr,g2,ht.base,ht.target,ht.next,ht.all⟩
theorem qqQ{l:List Int}{xs:List Sp}{t:Tk}(hf:p8 l xs)(ht:bp t):mtS ⟨l,xs,t⟩ :=
 ⟨by have:=hf.nl;show l.length≤1000;omega,by have:=hf.nx;show xs.length≤1000;omega,fun s hs=>by have:=(hf.sn s hs).2.2;omega,by have:=ht.few;show t.qp.length≤1000;omega⟩
def xC (W:World)(g:Nat)(v0 v1 v2:Value)(t:Tk):World :=
 xF ((W.setCell ⟨g,0,none⟩ v0).setCell ⟨g,1,none⟩ v1) g v2 t
theorem p9 {W:World}{g:Nat}{v0 v1 v2 u0 u1 u2:Value}{t t':Tk}(h:qh W g 103 (mC u0 u1 u2 t')):qh (xC W g v0 v1 v2 t) g 103 (mC v0 v1 v2 t):=by
 have h9:=((((((((h.qu 0 v0).qu 1 v1).qu 2 (.int .u64 (t.base.1:Int))).qu 3 (.int .u64 (t.base.2:Int))).qu 4 (.int .u64 (t.target.1:Int))).qu 5 (.int .u64 (t.target.2:Int))).qu 6 (.int .i64 t.next)).qu 7 (.int .i64 t.all)).qu 8 v2;simp only[mC,List.setIfInBounds_toArray,List.set_cons_succ,List.set_cons_zero]at h9;exact h9
theorem qa2{W:World}{g:Nat}{v0 v1 v2:Value}{t:Tk}{cs:Array Value}(h:qh W g 103 cs):Kp 103 W (xC W g v0 v1 v2 t):=by
 have go:∀(k:Nat) (u:Value) {W':World},Kp 103 W W'∧(∃cs,qh W' g 103 cs)→Kp 103 W (W'.setCell ⟨g,k,none⟩ u)∧(∃cs,qh (W'.setCell ⟨g,k,none⟩ u) g 103 cs):=fun k u W' ⟨h1,cs,h2⟩ =>
  ⟨h1.trans (Kp.uA k u h2),_,h2.qu k u⟩
 exact(go 8 v2 (go 7 _ (go 6 _ (go 5 _ (go 4 _ (go 3 _ (go 2 _ (go 1 v1 (go 0 v0 ⟨Kp.refl _ _,_,h⟩))))))))).1
theorem wS {w W:World}{B g:Nat}{v0 v1 v2:Value}{t:Tk}(h:Below B w W)(hg:B≤g):Below B w (xC W g v0 v1 v2 t) :=
 ((((((((h.setCell (p:=⟨g,0,none⟩) hg v0).setCell (p:=⟨g,1,none⟩) hg v1).setCell (p:=⟨g,2,none⟩) hg _).setCell (p:=⟨g,3,none⟩) hg _).setCell (p:=⟨g,4,none⟩) hg _).setCell (p:=⟨g,5,none⟩) hg _).setCell (p:=⟨g,6,none⟩) hg _).setCell (p:=⟨g,7,none⟩) hg _).setCell (p:=⟨g,8,none⟩) hg v2
section
variable {w W W':World} {p c gm b:Nat} {s s':St} {v0 v1 v2:Value} {l:List Int} {xs:List aZ} {t:Tk}
theorem DS.at_(h:DS w W p c gm b s v0 v1 v2 l xs t)(hf:p8 l (xs.map (·.1)))(ht:bp t):nR W (.agg (mC v0 v1 v2 t)) ⟨l,xs.map (·.1),t⟩:=qe4 h.live h.row h.qp hf ht
end
end Go.Proofs.YtdpbdkacngaemaaGreatDoor.mt
namespace Go.Proofs.YtdpbdkacngaemaaGreatDoor.mt.pg
open _root_.Go.Proofs.Tryz Go Go.RowKit ib wi im mt
def mZ (v0 v1:Value):Array Value:=#[v0,v1,.int .u64 0,.int .u64 0,.int .u64 0,.int .u64 0,.int .i64 0,.int .i64 0,.slice none 0 0]
structure TK(w W:World)(gR gm kb rb pb c b:Nat)(s:St)(v0 v1:Value)(l:List Int)(xs:List aZ):Prop where
 rd:Rd w c s W
 env:cY W kb rb pb c b
 res:qh W gR 103 (mZ (.slice none 0 0) (.slice none 0 0))
 m:qh W gm 103 (mZ v0 v1)
 live:qV W w.heap.size v0 l
 row:vG W w.heap.size v1 xs
 rn:w.heap.size≤gR
 gn:gR<gm
section
variable {w W W':World} {gR gm kb rb pb c b:Nat} {s s':St} {v0 v1:Value} {l:List Int} {xs:List aZ}
theorem TK.next(h:TK w W gR gm kb rb pb c b s v0 v1 l xs)(hr:Rd W c s' W'):TK w W' gR gm kb rb pb c b s' v0 v1 l xs :=
 ⟨h.rd.trans hr,h.env.rd h.rd.ps.blk hr,hr.blk h.res h.rd.ps.blk (by decide),hr.blk h.m h.rd.ps.blk (by decide),kI h.live (hr.kp h.rd.ps) (by decide),h.row.kp (hr.kp h.rd.ps) (by decide) (by decide),h.rn,h.gn⟩
theorem cY.kp{kb rb pb c b:Nat}(h:cY W kb rb pb c b)(hk:Kp 103 W W'):cY W' kb rb pb c b:=⟨⟨hk _ _ _ (by decide) h.e.k,hk _ _ _ (by decide) h.e.r⟩,hk _ _ _ (by decide) h.p⟩
theorem TK.qiD{l':List Int}(h:TK w W gR gm kb rb pb c b s v0 v1 l xs)(v:Value)(hv:qV W w.heap.size v l'):TK w (W.setCell ⟨gm,0,none⟩ v) gR gm kb rb pb c b s v v1 l' xs:=by
 have hk:=Kp.uA 0 v h.m;have:=h.rn;have:=h.gn;exact⟨h.rd.set h.m (by omega) (by decide) (by decide) 0 v,h.env.kp hk,h.res.of_block (qw _ _ _ _ _ (by omega)),h.m.qu 0 v,kI hv hk (by decide),h.row.kp hk (by decide) (by decide),h.rn,h.gn⟩
theorem TK.qiE{xs':List aZ}(h:TK w W gR gm kb rb pb c b s v0 v1 l xs)(v:Value)(hv:vG W w.heap.size v xs'):TK w (W.setCell ⟨gm,1,none⟩ v) gR gm kb rb pb c b s v0 v l xs':=by
 have hk:=Kp.uA 1 v h.m;have:=h.rn;have:=h.gn;exact⟨h.rd.set h.m (by omega) (by decide) (by decide) 1 v,h.env.kp hk,h.res.of_block (qw _ _ _ _ _ (by omega)),h.m.qu 1 v,kI h.live hk (by decide),hv.kp hk (by decide) (by decide),h.rn,h.gn⟩
end
theorem qmW{w W:World}{b c n g:Nat}{s:St}{xs:List aZ}{B:Nat}(h:Sn b c n g s w n xs W)(hg:B≤g)(hB:B≤w.heap.size)(hn:n≤1000):vG W B (.slice (some ⟨g,0,none⟩) n n) xs:=by
 have hr:=h.row;rw[Nat.sub_self,List.replicate_zero,List.append_nil]at hr;have hl:=h.len;refine⟨⟨by rw[yD],.inr ⟨g,n,(zt xs).toArray,by rw[hl],hg,hr,by omega,by unfold maxLen;omega,by rw[List.size_toArray,yD,hl],?_⟩⟩,fun x hx=>qaq (h.qp x hx) hB⟩;rw[List.take_of_length_le (by rw[yD];omega)]
theorem qfM{a W:World}{c gm:Nat}{s:St}{cs:Array Value}{v:Value}{t:Tk}(h:Rd a c s W)(hm:qh W gm 103 cs)(hn:a.heap.size≤gm):Rd a c s (xF W gm v t):=by
 have go:∀(k:Nat) (u:Value) {W':World},(Rd a c s W'∧∃cs,qh W' gm 103 cs)→(Rd a c s (W'.setCell ⟨gm,k,none⟩ u)∧∃cs,qh (W'.setCell ⟨gm,k,none⟩ u) gm 103 cs):=fun k u W' ⟨h1,cs,h2⟩=>⟨h1.set h2 hn (by decide) (by decide) k u,_,h2.qu k u⟩;exact(go 8 v (go 7 _ (go 6 _ (go 5 _ (go 4 _ (go 3 _ (go 2 _ ⟨h,cs,hm⟩))))))).1
theorem qfN{W:World}{g:Nat}{v:Value}{t:Tk}{cs:Array Value}(h:qh W g 103 cs):Kp 103 W (xF W g v t):=by
 have go:∀(k:Nat) (u:Value) {W':World},Kp 103 W W'∧(∃cs,qh W' g 103 cs)→Kp 103 W (W'.setCell ⟨g,k,none⟩ u)∧(∃cs,qh (W'.setCell ⟨g,k,none⟩ u) g 103 cs):=fun k u W' ⟨h1,cs,h2⟩ =>
  ⟨h1.trans (Kp.uA k u h2),_,h2.qu k u⟩
 exact(go 8 v (go 7 _ (go 6 _ (go 5 _ (go 4 _ (go 3 _ (go 2 _ ⟨Kp.refl _ _,_,h⟩))))))).1
theorem ar {W:World}{g:Nat}{v0 v1 v:Value}{t:Tk}(h:qh W g 103 (mZ v0 v1)):qh (xF W g v t) g 103 (mC v0 v1 v t):=by
 have h9:=((((((h.qu 2 (.int .u64 (t.base.1:Int))).qu 3 (.int .u64 (t.base.2:Int))).qu 4 (.int .u64 (t.target.1:Int))).qu 5 (.int .u64 (t.target.2:Int))).qu 6 (.int .i64 t.next)).qu 7 (.int .i64 t.all)).qu 8 v;simp only[mZ,List.setIfInBounds_toArray,List.set_cons_succ,List.set_cons_zero]at h9;exact h9
theorem qcG{W:World}{g j:Nat}{v:Value}{t:Tk}(hj:j≠g):(xF W g v t).heap[j]?=W.heap[j]? :=by
 unfold xF;rw[qw _ _ _ _ _ hj,qw _ _ _ _ _ hj,qw _ _ _ _ _ hj,qw _ _ _ _ _ hj,qw _ _ _ _ _ hj,qw _ _ _ _ _ hj,qw _ _ _ _ _ hj]
structure Fin(w W:World)(gR gm c:Nat)(v0 v1 v2:Value)(m:Mt):Prop where
 but:qB (Tc c) w W
 res:qh W gR 103 (mZ (.slice none 0 0) (.slice none 0 0))
 mm:qh W gm 103 (mC v0 v1 v2 m.tok)
 at_:∃xs,qV W w.heap.size v0 m.live∧vG W w.heap.size v1 xs∧qV W w.heap.size v2 m.tok.qp∧xs.map (·.1)=m.qd
 ok:p8 m.live m.qd∧bp m.tok
 rn:w.heap.size≤gR
structure Own(w:World)(B:Nat)(v0 v1 v2:Value)(m:Mt):Prop where
 at_:∃xs,qV w B v0 m.live∧vG w B v1 xs∧qV w B v2 m.tok.qp∧xs.map (·.1)=m.qd
 ok:p8 m.live m.qd∧bp m.tok
theorem Own.kp{w w':World}{B:Nat}{v0 v1 v2:Value}{m:Mt}{r:TypeId}(h:Own w B v0 v1 v2 m)(hk:Kp r w w')(h1:141≠r)(h2:3≠r):Own w' B v0 v1 v2 m:=by
 obtain⟨xs,a,b,c,d⟩:=h.at_;exact⟨⟨xs,kI a hk h2,b.kp hk h1 h2,kI c hk h2,d⟩,h.ok⟩
theorem Own.mt{w:World}{B:Nat}{v0 v1 v2:Value}{m:Mt}(h:Own w B v0 v1 v2 m):nR w (.agg (mC v0 v1 v2 m.tok)) m:=by
 obtain⟨xs,a,b,c,d⟩:=h.at_;have:=qe4 a b c (by rw[d];exact h.ok.1) h.ok.2;rw[d]at this;exact this
def qpa (c:Nat)(s:St)(w:World)(e:Ending)(w':World):Prop:=∃v0 v1 v2,e=.returned (.agg (mC v0 v1 v2 (mP s).tok))∧Own w' w.heap.size v0 v1 v2 (mP s)∧qB (Tc c) w w'
theorem Fin.done{w W:World}{gR gm c:Nat}{v0 v1 v2:Value}{m:Mt}(h:Fin w W gR gm c v0 v1 v2 m):qh (xC W gR v0 v1 v2 m.tok) gR 103 (mC v0 v1 v2 m.tok)∧Own (xC W gR v0 v1 v2 m.tok) w.heap.size v0 v1 v2 m∧qB (Tc c) w (xC W gR v0 v1 v2 m.tok):=by
 have hk:=qa2 (v0:=v0) (v1:=v1) (v2:=v2) (t:=m.tok) h.res;obtain⟨xs,h1,h2,h3,h4⟩:=h.at_;have hr:qh W gR 103 (mC aq aq aq yg):=h.res;have ha:Own (xC W gR v0 v1 v2 m.tok) w.heap.size v0 v1 v2 m:=Own.kp ⟨h.at_,h.ok⟩ hk (by decide) (by decide);have hb:qB (Tc c) w (xC W gR v0 v1 v2 m.tok):=by
  have go:∀(k:Nat) (u:Value) {W':World},qB (Tc c) w W'→qB (Tc c) w (W'.setCell ⟨gR,k,none⟩ u):=fun k u W' h1=>h1.setCell _ _ (.inr h.rn);exact go 8 _ (go 7 _ (go 6 _ (go 5 _ (go 4 _ (go 3 _ (go 2 _ (go 1 _ (go 0 _ h.but))))))))
 exact⟨p9 hr,ha,hb⟩
theorem qe5{W:World}{g:Nat}{v0 v1 v2:Value}{t:Tk}(h:qh W g 103 (mC v0 v1 v2 t)):(loadVar 103 ⟨g,0,none⟩).run prog W=.ok (.agg (mC v0 v1 v2 t)) W :=
 run_loadVar_row W g 103 103 _ (0,0) _ h underlying103 rfl (by kernel_rfl)
theorem qjj{W:World}{g:Nat}{v0 v1 v2:Value}{t:Tk}(h:qh W g 103 (mC v0 v1 v2 t))(tm:Array Value)(hp:tm.getD 2 undef=.pointer (some ⟨g,0,none⟩)) :
    (results Tryz.f124 tm).run prog W=.ok (.agg (mC v0 v1 v2 t)) W:=by
 have hl:=qe5 h;generalize mC v0 v1 v2 t=X at *;exact zx results124 tm _ _ ⟨g,0,none⟩ _ hp hl
theorem qa3{w WE:World}{gR c:Nat}{s:St}{v0 v1 v2:Value}{m:Mt}(a:Act)(ha:a.defers=[])(hp:a.tmps.getD 2 undef=.pointer (some ⟨gR,0,none⟩))(hm:mP s=m)
    (h:qh WE gR 103 (mC v0 v1 v2 m.tok)∧Own WE w.heap.size v0 v1 v2 m∧qB (Tc c) w WE):bodyPost prog Tryz.f124 (qpa c s w) .ret a WE :=
 bodyPost_ret (qjj h.1 a.tmps hp) ha ⟨v0,v1,v2,by rw[hm],by rw[hm];exact h.2.1,h.2.2⟩
theorem jL {w:World}{c:Nat}{s:St}(h:PS w c s):Calls prog 124 #[ptr c] w (qpa c s w):=by
 have HP0:=QH h;have hb1:=(Below.refl w.heap.size w).alloc (Nat.le_refl _) (.cells #[ptr c] 198);have hr1:Rd w c s (w.alloc (.cells #[ptr c] 198)):=⟨qB.of_below hb1,h.below hb1⟩;have ha1:=qh.new w 198 #[ptr c];obtain⟨W1,hW1⟩:=QE (w.alloc (.cells #[ptr c] 198));rw[hW1]at hr1 ha1 hb1;have hb2:=(Below.refl W1.heap.size W1).alloc (Nat.le_refl _) (.cells (mZ (.slice none 0 0) (.slice none 0 0)) 103);have hr2:=hr1.new hb2;have ha2:=qh.new W1 103 (mZ (.slice none 0 0) (.slice none 0 0));obtain⟨W2,hW2⟩:=QE (W1.alloc (.cells (mZ (.slice none 0 0) (.slice none 0 0)) 103));rw[hW2]at hr2 ha2 hb2;have uS:=QH hr2;have qG:=QH (ha1.below hb2);have uT:=QH ha2;have HRN:Hid (w.heap.size≤W1.heap.size):=hb1.size;obtain⟨gR,hgR⟩:=QE W1.heap.size;rw[hgR]at uT HRN;obtain⟨rb,hrb⟩:=QE w.heap.size;have HRB:=QH hrb;have hB2:=qG.out;rw[hrb]at hB2;have HX2:=QH hB2;have r0:=hB2.cell 0;simp only[QA,QB,QC]at r0;have hlr:=hB2.lt;clear h hb1 hr1 ha1 hb2 hr2 ha2 hB2 qG;unfold mZ at hW2;go_enter func124,ntmps124;go_upto_region 1 with fail;try rw[hrb]
 try rw[hW1]
 try rw[hW2]
 try rw[hgR]
 clear hW1 hW2 hgR hrb;go_wp2_with fail;refine(wQ uS.out.ps 8 8 rfl (by omega)).mono ?_;rintro e W3 ⟨rfl,hq⟩;have qqR:=uS.out.trans hq;have hA3:=hq.blk uT.out uS.out.ps.blk (by decide);have hX3:=hq.blk HX2.out uS.out.ps.blk (by decide);clear hq uT HX2 r0 hlr uS;have hbb:=cO 8 s;obtain⟨b,hbE⟩:=QE ((jP 8 s).1);rw[hbE]at hbb ⊢;have HBE:=QH hbE;obtain⟨s1,hs1⟩:=QE ((jP 8 s).2);rw[hs1]at qqR;have oY:=QH hs1;have HBB:=QH hbb;clear hs1 hbE hbb;have hb4:=(Below.refl W3.heap.size W3).alloc (Nat.le_refl _) (.cells #[.int .i64 (b:Int)] 3);have hK4:=qh.new W3 3 #[.int .i64 (b:Int)];obtain⟨W4,tP⟩:=QE (W3.alloc (.cells #[.int .i64 (b:Int)] 3));rw[tP]at hb4 hK4;obtain⟨kb,hkb⟩:=QE W3.heap.size;rw[hkb]at hK4;have quP:=QH (qqR.new hb4);have ix:=QH (hA3.below hb4);have HX4:=QH (hX3.below hb4);have pj:=QH hK4;clear qqR hA3 hX3 hb4 hK4;go_upto_region 2 with fail;try rw[hkb]
 try rw[tP]
 clear tP hkb;have hb5:=(Below.refl W4.heap.size W4).alloc (Nat.le_refl _) (.cells #[plF kb rb] 211);have hP5:=qh.new W4 211 #[plF kb rb];obtain⟨W5,cG⟩:=QE (W4.alloc (.cells #[plF kb rb] 211));rw[cG]at hb5 hP5;obtain⟨pb,hpb⟩:=QE W4.heap.size;rw[hpb]at hP5;have quQ:=QH (quP.out.new hb5);have HA5:=QH (ix.out.below hb5);have HE5:Hid (cY W5 kb rb pb c b):=⟨⟨pj.out.below hb5,HX4.out.below hb5⟩,hP5⟩;clear quP ix HX4 pj hb5 hP5;go_upto_region 3 with fail;try rw[hpb]
 try rw[cG]
 clear cG hpb;have wG:=(Below.refl W5.heap.size W5).alloc (Nat.le_refl _) (.cells (mZ (.slice none 0 0) (.slice none 0 0)) 103);have hM6:=qh.new W5 103 (mZ (.slice none 0 0) (.slice none 0 0));obtain⟨W6,hW6⟩:=QE (W5.alloc (.cells (mZ (.slice none 0 0) (.slice none 0 0)) 103));rw[hW6]at wG hM6;have HGN:Hid (gR<W5.heap.size):=HA5.out.lt;obtain⟨gm,hgm⟩:=QE W5.heap.size;rw[hgm]at hM6 HGN;have iJ:Hid (TK w W6 gR gm kb rb pb c b s1 (.slice none 0 0) (.slice none 0 0) [] []):=⟨quQ.out.new wG,HE5.out.below wG,HA5.out.below wG,hM6,wO _ _,vG.nil _ _,HRN.out,HGN.out⟩;clear quQ HA5 HE5 wG hM6;unfold mZ at hW6;go_upto_region 4 with fail;try rw[hgm]
 try rw[hW6]
 clear hW6 hgm;have p0:=iJ.out.env.p.cell 0;simp only[QA,QB,QC]at p0;have hlp:=iJ.out.env.p.lt;go_wp2_with fail;refine(kJ (by have:=HBB.out;omega) iJ.out.rd.ps iJ.out.env.e.k iJ.out.env.e.r).mono ?_;rintro e W7 ⟨g0,rfl,hg0,quR,hq⟩;have HT7:=QH (iJ.out.next hq);have hv:=qiZ (B:=w.heap.size) quR (by have:=iJ.out.rd.but.size;omega) (by rw[ke];have:=HBB.out;omega);rw[ke]at hv;have fz:=QH hv;clear hq hv hg0 quR p0 hlp iJ;have HLV:Hid (wy b s1=fh s):=by unfold Hid fh;rw[HBE.out,oY.out]
 obtain⟨ls,hls⟩:=QE (wy b s1);rw[hls]at HT7 fz HLV;clear hls;obtain⟨l,hl⟩:=QE ls.1;rw[hl]at fz;have HLE:=QH hl;clear hl;have q0:=HT7.out.m.cell 0;simp only[mZ,QA,QB,QC]at q0;have f0:=HT7.out.m.frozen 0;have hlm:=HT7.out.m.lt;have HT8:=QH (HT7.out.qiD (.slice (some ⟨g0,0,none⟩) b b) fz.out);obtain⟨W8,nJ⟩:=QE (W7.setCell ⟨gm,0,none⟩ (.slice (some ⟨g0,0,none⟩) b b));rw[nJ]at HT8;clear HT7 fz;go_upto_region 5 with fail;try rw[nJ]
 clear nJ q0 f0 hlm;have r0:=HT8.out.env.e.r.cell 0;simp only[QA,QB,QC]at r0;have hlr:=HT8.out.env.e.r.lt;go_wp2_with fail;refine(wQ HT8.out.rd.ps 20 20 rfl (by omega)).mono ?_;rintro e W9 ⟨rfl,hq⟩;have HT9:=QH (HT8.out.next hq);clear hq r0 hlr HT8;have hnb:=cO 20 ls.2;obtain⟨n,hnE⟩:=QE ((jP 20 ls.2).1);rw[hnE]at hnb ⊢;have HNE:=QH hnE;have HNB:=QH hnb;clear hnE hnb;go_wp2_with fail;refine(qmU n (by have:=HNB.out;omega) (by have:=HBB.out;omega) HT9.out.rd.ps HT9.out.env).mono ?_;rintro e W10 ⟨gs,xs,rfl,tQ,hsn⟩;have nY:=QH (HT9.out.next hsn.rd);have HW9:Hid (w.heap.size≤W9.heap.size):=HT9.out.rd.but.size;have HV1:=QH (qmW (B:=w.heap.size) hsn (by have:=HW9.out;omega) HW9.out (by have:=HNB.out;omega));have HSE:Hid (xs.map (·.1)=(kB b n (jP 20 ls.2).2).1):=hsn.is;have HXL:Hid (xs.length=n):=hsn.len;clear hsn tQ HT9;have HAL:Hid (kB b n (jP 20 ls.2).2=qcm s):=by unfold Hid qcm;rw[HBE.out,← HLV.out,HNE.out]
 obtain⟨ss,hss⟩:=QE (kB b n (jP 20 ls.2).2);rw[hss]at nY HSE HAL;have HSO:Hid (∀x∈ss.1,ya x.qp∧x.qp.length=b∧zV x.g):=by rw[← hss];exact rz _ _ _
 clear hss;have q1:=nY.out.m.cell 1;simp only[mZ,QA,QB,QC]at q1;have f1:=nY.out.m.frozen 1;have hlm:=nY.out.m.lt;have cX:=QH (nY.out.qiE (.slice (some ⟨gs,0,none⟩) n n) HV1.out);obtain⟨W11,qqU⟩:=QE (W10.setCell ⟨gm,1,none⟩ (.slice (some ⟨gs,0,none⟩) n n));rw[qqU]at cX;clear nY HV1;go_upto_region 6 with fail;try rw[qqU]
 clear qqU q1 f1 hlm;have r0:=cX.out.env.e.r.cell 0;simp only[QA,QB,QC]at r0;have hlr:=cX.out.env.e.r.lt;go_wp2_with fail;refine(wP cX.out.rd.ps).mono ?_;rintro e W12 ⟨rfl,hq⟩;have uD:=QH (cX.out.next hq);clear hq r0 hlr cX;have fH:Hid (p8 l ss.1):=by
  have hl1:l.length=b∧ya l:=by
   rw[← HLE.out,HLV.out];unfold fh;rw[HBE.out];exact⟨ke _ _,ry _ _⟩
  refine⟨hl1.2,fun x hx=>⟨(HSO.out x hx).1,(HSO.out x hx).2.2,by have:=(HSO.out x hx).2.1;have:=HBB.out;omega⟩,by have:=HBB.out;omega,?_⟩;rw[← HSE.out,List.length_map,HXL.out];have:=HNB.out;omega
 have HMP:Hid (mP s=⟨l,ss.1,if (zP ss.2).1=1 then(nP b (zP ss.2).2).1 else yg⟩):=by unfold Hid mP;rw[← HLV.out,← HAL.out,HBE.out,HLE.out]
 obtain⟨fl,wA⟩:=QE ((zP ss.2).1);rw[wA]at HMP ⊢;obtain⟨s3,hs3⟩:=QE ((zP ss.2).2);rw[hs3]at HMP uD;clear wA hs3 HSO HAL HLV;by_cases h1:fl=1
 ·have hq:((fl:Int) == 1)=true:=by rw[h1];rfl
  have HM2:Hid (mP s=⟨l,ss.1,(nP b s3).1⟩):=by unfold Hid;rw[HMP.out,if_pos h1]
  clear h1 HMP;have r0:=uD.out.env.e.r.cell 0;simp only[QA,QB,QC]at r0;have hlr:=uD.out.env.e.r.lt;have p0:=uD.out.env.p.cell 0;simp only[QA,QB,QC]at p0;have hlp:=uD.out.env.p.lt;go_wp2_with fail;refine(cU (by have:=HBB.out;omega) uD.out.rd.ps uD.out.env.e).mono ?_;rintro e W13 ⟨gt,rfl,hgt,quT,hq⟩;have kg:=QH (uD.out.next hq);have HTL:Hid ((nP b s3).1.qp.length=b∧ya (nP b s3).1.qp∧(nP b s3).1.next≤9∧0≤(nP b s3).1.next∧(nP b s3).1.all≤9∧0≤(nP b s3).1.all):=by
   have e1:=cO 8 (jS (jS s3).2).2;have e2:=cO 8 (jP 8 (jS (jS s3).2).2).2;exact⟨ke _ _,ry _ _,by show((jP 8 (jS (jS s3).2).2).1:Int)≤9;omega,by show(0:Int)≤((jP 8 (jS (jS s3).2).2).1:Int);omega,by show((jP 8 (jP 8 (jS (jS s3).2).2).2).1:Int)≤9;omega,by show(0:Int)≤((jP 8 (jP 8 (jS (jS s3).2).2).2).1:Int);omega⟩
  have HTB:=QH (qiy b s3);have hv:=qiZ (B:=w.heap.size) quT (by have:=uD.out.rd.but.size;omega) (by rw[HTL.out.1];have:=HBB.out;omega);rw[HTL.out.1]at hv;obtain⟨t,ht⟩:=QE ((nP b s3).1);rw[ht]at hv HTL HTB HM2;unfold wD;rw[ht,HTL.out.1];have HV2:=QH hv;clear hq hv hgt quT r0 hlr p0 hlp uD ht;have vJ:=kg.out.m;have m2:=vJ.cell 2;have m3:=vJ.cell 3;have m4:=vJ.cell 4;have m5:=vJ.cell 5;have m6:=vJ.cell 6;have m7:=vJ.cell 7;have m8:=vJ.cell 8;simp only[mZ,QA,QB,QC]at m2 m3 m4 m5 m6 m7 m8;have f2:=vJ.frozen 2;have f3:=vJ.frozen 3;have f4:=vJ.frozen 4;have f5:=vJ.frozen 5;have f6:=vJ.frozen 6;have f7:=vJ.frozen 7;have f8:=vJ.frozen 8;have hlm:=vJ.lt;have hk:=qfN (v:=.slice (some ⟨gt,0,none⟩) b b) (t:=t) vJ;have HF:Hid (Fin w (xF W13 gm (.slice (some ⟨gt,0,none⟩) b b) t) gR gm c (.slice (some ⟨g0,0,none⟩) b b) (.slice (some ⟨gs,0,none⟩) n n) (.slice (some ⟨gt,0,none⟩) b b) ⟨l,ss.1,t⟩) :=
   ⟨(qfM kg.out.rd vJ (by have:=kg.out.rn;have:=kg.out.gn;omega)).but,kg.out.res.of_block (qcG (by have:=kg.out.gn;omega)),ar vJ,
    ⟨xs,kI kg.out.live hk (by decide),kg.out.row.kp hk (by decide) (by decide),kI HV2.out hk (by decide),HSE.out⟩,
    ⟨fH.out,⟨HTL.out.2.1,by show t.qp.length≤100;have:=HTL.out.1;have:=HBB.out;omega,HTB.out.1,HTB.out.2,by show qA t.next;unfold qA;have:=HTL.out;omega,by show qA t.all;unfold qA;have:=HTL.out;omega⟩⟩,kg.out.rn⟩
  obtain⟨W14,iv⟩:=QE (xF W13 gm (.slice (some ⟨gt,0,none⟩) b b) t);rw[iv]at HF;unfold xF at iv;clear kg HV2 hk vJ;go_upto_region 8 with fail;try rw[iv]
  clear iv m2 m3 m4 m5 m6 m7 m8 f2 f3 f4 f5 f6 f7 f8 hlm;have m0:=HF.out.mm.cell 0;have m1:=HF.out.mm.cell 1;have m2:=HF.out.mm.cell 2;have m3:=HF.out.mm.cell 3;have m4:=HF.out.mm.cell 4;have m5:=HF.out.mm.cell 5;have m6:=HF.out.mm.cell 6;have m7:=HF.out.mm.cell 7;have m8:=HF.out.mm.cell 8;have a0:=HF.out.res.cell 0;have a1:=HF.out.res.cell 1;have a2:=HF.out.res.cell 2;have a3:=HF.out.res.cell 3;have a4:=HF.out.res.cell 4;have a5:=HF.out.res.cell 5;have a6:=HF.out.res.cell 6;have a7:=HF.out.res.cell 7;have a8:=HF.out.res.cell 8;simp only[mC,mZ,QA,QB,QC]at m0 m1 m2 m3 m4 m5 m6 m7 m8 a0 a1 a2 a3 a4 a5 a6 a7 a8;have f0:=HF.out.res.frozen 0;have f1:=HF.out.res.frozen 1;have f2:=HF.out.res.frozen 2;have f3:=HF.out.res.frozen 3;have f4:=HF.out.res.frozen 4;have f5:=HF.out.res.frozen 5;have f6:=HF.out.res.frozen 6;have f7:=HF.out.res.frozen 7;have f8:=HF.out.res.frozen 8;have hlm:=HF.out.mm.lt;have dI:=HF.out.res.lt;have HD:=QH HF.out.done;go_wp2_with fail;show bodyPost _ _ _ _ _ (xC W14 gR (.slice (some ⟨g0,0,none⟩) b b) (.slice (some ⟨gs,0,none⟩) n n) (.slice (some ⟨gt,0,none⟩) b b) t);obtain⟨WE,hWE⟩:=QE (xC W14 gR (.slice (some ⟨g0,0,none⟩) b b) (.slice (some ⟨gs,0,none⟩) n n) (.slice (some ⟨gt,0,none⟩) b b) t);have HD2:=HD.out;try dsimp only at HD2
  rw[hWE]at HD2 ⊢;have HD3:=QH HD2;clear HD2 hWE HD m0 m1 m2 m3 m4 m5 m6 m7 m8 a0 a1 a2 a3 a4 a5 a6 a7 a8 f0 f1 f2 f3 f4 f5 f6 f7 f8;exact qa3 (gR:=gR) (v0:=.slice (some ⟨g0,0,none⟩) b b) (v1:=.slice (some ⟨gs,0,none⟩) n n) (v2:=(.slice (some ⟨gt,0,none⟩) b b)) (m:=⟨l,ss.1,t⟩) _ rfl (by simp) HM2.out HD3.out
 ·have hq:((fl:Int) == 1)=false:=by simp;omega
  have HM2:Hid (mP s=⟨l,ss.1,yg⟩):=by unfold Hid;rw[HMP.out,if_neg h1]
  clear h1 HMP;have HF:Hid (Fin w W12 gR gm c (.slice (some ⟨g0,0,none⟩) b b) (.slice (some ⟨gs,0,none⟩) n n) (.slice none 0 0) ⟨l,ss.1,yg⟩) :=
   ⟨uD.out.rd.but,uD.out.res,uD.out.m,⟨xs,uD.out.live,uD.out.row,wO _ _,HSE.out⟩,⟨fH.out,qqP⟩,uD.out.rn⟩
  go_upto_region 8 with fail;have m0:=HF.out.mm.cell 0;have m1:=HF.out.mm.cell 1;have m2:=HF.out.mm.cell 2;have m3:=HF.out.mm.cell 3;have m4:=HF.out.mm.cell 4;have m5:=HF.out.mm.cell 5;have m6:=HF.out.mm.cell 6;have m7:=HF.out.mm.cell 7;have m8:=HF.out.mm.cell 8;have a0:=HF.out.res.cell 0;have a1:=HF.out.res.cell 1;have a2:=HF.out.res.cell 2;have a3:=HF.out.res.cell 3;have a4:=HF.out.res.cell 4;have a5:=HF.out.res.cell 5;have a6:=HF.out.res.cell 6;have a7:=HF.out.res.cell 7;have a8:=HF.out.res.cell 8;simp only[mC,mZ,QA,QB,QC]at m0 m1 m2 m3 m4 m5 m6 m7 m8 a0 a1 a2 a3 a4 a5 a6 a7 a8;have f0:=HF.out.res.frozen 0;have f1:=HF.out.res.frozen 1;have f2:=HF.out.res.frozen 2;have f3:=HF.out.res.frozen 3;have f4:=HF.out.res.frozen 4;have f5:=HF.out.res.frozen 5;have f6:=HF.out.res.frozen 6;have f7:=HF.out.res.frozen 7;have f8:=HF.out.res.frozen 8;have hlm:=HF.out.mm.lt;have dI:=HF.out.res.lt;have HD:=QH HF.out.done;go_wp2_with fail;show bodyPost _ _ _ _ _ (xC W12 gR (.slice (some ⟨g0,0,none⟩) b b) (.slice (some ⟨gs,0,none⟩) n n) (.slice none 0 0) yg);obtain⟨WE,hWE⟩:=QE (xC W12 gR (.slice (some ⟨g0,0,none⟩) b b) (.slice (some ⟨gs,0,none⟩) n n) (.slice none 0 0) yg);have HD2:=HD.out;try dsimp only at HD2
  rw[hWE]at HD2 ⊢;have HD3:=QH HD2;clear HD2 hWE HD m0 m1 m2 m3 m4 m5 m6 m7 m8 a0 a1 a2 a3 a4 a5 a6 a7 a8 f0 f1 f2 f3 f4 f5 f6 f7 f8;exact qa3 (gR:=gR) (v0:=.slice (some ⟨g0,0,none⟩) b b) (v1:=.slice (some ⟨gs,0,none⟩) n n) (v2:=(.slice none 0 0)) (m:=⟨l,ss.1,yg⟩) _ rfl (by simp) HM2.out HD3.out
end Go.Proofs.YtdpbdkacngaemaaGreatDoor.mt.pg
namespace Go.Proofs.YtdpbdkacngaemaaGreatDoor.mt.pg
open _root_.Go.Proofs.Tryz Go Go.RowKit ib wi mt
def qmX (r:List UInt8)(w:World)(e:Ending)(w':World):Prop:=e=.returned (.string (str r))∧Below w.heap.size w w'
def quU (L:List UInt8)(l:List Int)(w:World)(v x i:Value)(wr:World):Prop :=
 ∃k:Nat,k≤l.length∧i=.int .i64 (k:Int)∧v=.string (str (L++zi (l.take k)))∧Below w.heap.size w wr
theorem qcJ(l:List Int)(k:Nat)(h:k<l.length):zi (l.take (k+1))=zi (l.take k)++xz l[k]:=by
 unfold zi;rw[List.take_succ_eq_append_getElem h,List.flatMap_append];simp
theorem qy (n:Nat):(zk n).length≤9:=by
 unfold zk;have:=jh n;simp only[List.length_cons];omega
theorem jc:∀l:List Int,(zi l).length≤9*l.length
 | []=>by simp[zi]
 | z::l=>by
  have h1:=qy z.toNat;have h2:=jc l;simp only[zi,List.flatMap_cons,List.length_append,List.length_cons,xz]at h2 ⊢;omega
theorem kh (L:List UInt8)(A:Option Addr)(c:Nat)(l:List Int)(w:World)(hl:qH w A l)(h0:∀z∈l,0≤z)(hs:L.length≤100000)(h1:l.length≤1000) :
    Calls prog 245 #[.string (str L),.slice A l.length c] w (qmX (L++zi l) w):=by
 have HL:=QH hl;have HN:=QH h0;have HS:=QH hs;have HI0:Hid (str L=str (L++zi (l.take 0))):=by unfold Hid;simp[zi]
 clear hl h0 hs;obtain⟨P0,hP0⟩:=QE (str L);rw[hP0]at HI0 ⊢;clear hP0;go_enter func245,ntmps245;go_wp2_with fail;go_loopw [0,6,9] (fun v x i wr=>quU L l w v x i wr) (fun _ _ i _=>l.length-(intOf i).toNat);case atStart=>exact⟨0,Nat.zero_le _,rfl,by rw[HI0.out],Below.refl _ _⟩
 case round =>
  obtain⟨k,hk,rfl,rfl,hb⟩:=hrel;have HB:=QH hb;clear hb;by_cases hlt:k<l.length
  ·have ja:(k:Int)<(l.length:Int):=by omega
   obtain⟨b,o,rfl,hbl,hc,hz⟩:=HL.out k hlt;have hz0:=HN.out l[k] (List.getElem_mem hlt);have uh:=QH (qcJ l k hlt);have dH:=QH (jc (l.take k));have e0:wr.cell? ⟨b,o+k,none⟩=some (.int .i64 l[k]):=by rw[HB.out.cell (p:=⟨b,o+k,none⟩) hbl];exact hc
   have l0:b<wr.heap.size:=Nat.lt_of_lt_of_le hbl HB.out.size;clear hc hbl;obtain⟨u,hu⟩:∃u:Nat,l[k]=(u:Int):=⟨l[k].toNat,by omega⟩;rw[hu]at e0;have q9q:(u:Int)≤9223372036854775807:=by rw[← hu];exact hz.2
   have HU:=QH hu;obtain⟨P,hP⟩:=QE (str (L++zi (l.take k)));have hPs:P.size≤140737488355000:=by
    rw[← hP,qO,List.length_append];have:=dH.out;have:=HS.out;simp at *;omega
   have HP:=QH hP;have nK:=QH hPs;rw[hP];clear hP hPs hu hz hz0;go_wp2_with fail;refine(jw P u wr (by omega) nK.out).mono ?_;rintro e w' ⟨rfl,hb'⟩;have HB':=QH (qc HB.out hb');clear hb';go_wp2_with fail;go_roundw;case rel =>
    refine⟨k+1,by omega,by go_num,?_,HB'.out⟩;rw[uh.out,HU.out,← HP.out,zn,List.append_assoc];rfl
   case measure=>simp[intOf];omega
  ·have ja:¬ (k:Int)<(l.length:Int):=by omega
   obtain rfl:k=l.length:=by omega
   rw[List.take_length];go_wp2_with fail;go_ret;exact⟨rfl,HB.out⟩
def qjl (w:World)(a:Option Addr)(l:List Nat):Prop :=
 ∀i (h:i<l.length),∃b o,a=some ⟨b,o,none⟩∧b<w.heap.size∧w.cell? ⟨b,o+i,none⟩=some (.int .u64 (l[i]:Int))∧l[i]<18446744073709551616
def uV (l:List Nat):List UInt8:=l.flatMap zk
theorem qcK(l:List Nat)(k:Nat)(h:k<l.length):uV (l.take (k+1))=uV (l.take k)++zk l[k]:=by
 unfold uV;rw[List.take_succ_eq_append_getElem h,List.flatMap_append];simp
theorem pk:∀l:List Nat,(uV l).length≤9*l.length
 | []=>by simp[uV]
 | z::l=>by
  have h1:=qy z;have h2:=pk l;simp only[uV,List.flatMap_cons,List.length_append,List.length_cons]at h2 ⊢;omega
def quX (L:List UInt8)(l:List Nat)(w:World)(v x i:Value)(wr:World):Prop :=
 ∃k:Nat,k≤l.length∧i=.int .i64 (k:Int)∧v=.string (str (L++uV (l.take k)))∧Below w.heap.size w wr
theorem qa6(L:List UInt8)(A:Option Addr)(c:Nat)(l:List Nat)(w:World)(hl:qjl w A l)(hs:L.length≤100000)(h1:l.length≤1000) :
    Calls prog 246 #[.string (str L),.slice A l.length c] w (qmX (L++uV l) w):=by
 have HL:=QH hl;have HS:=QH hs;have HI0:Hid (str L=str (L++uV (l.take 0))):=by unfold Hid;simp[uV]
 clear hl hs;obtain⟨P0,hP0⟩:=QE (str L);rw[hP0]at HI0 ⊢;clear hP0;go_enter func246,ntmps246;go_wp2_with fail;go_loopw [0,6,9] (fun v x i wr=>quX L l w v x i wr) (fun _ _ i _=>l.length-(intOf i).toNat);case atStart=>exact⟨0,Nat.zero_le _,rfl,by rw[HI0.out],Below.refl _ _⟩
 case round =>
  obtain⟨k,hk,rfl,rfl,hb⟩:=hrel;have HB:=QH hb;clear hb;by_cases hlt:k<l.length
  ·have ja:(k:Int)<(l.length:Int):=by omega
   obtain⟨b,o,rfl,hbl,hc,hz⟩:=HL.out k hlt;have uh:=QH (qcK l k hlt);have dH:=QH (pk (l.take k));have e0:wr.cell? ⟨b,o+k,none⟩=some (.int .u64 (l[k]:Int)):=by rw[HB.out.cell (p:=⟨b,o+k,none⟩) hbl];exact hc
   have l0:b<wr.heap.size:=Nat.lt_of_lt_of_le hbl HB.out.size;clear hc hbl;obtain⟨u,hu⟩:=QE (l[k]:Nat);rw[hu]at e0 hz;have HU:=QH hu;have HZ:=QH hz;obtain⟨P,hP⟩:=QE (str (L++uV (l.take k)));have hPs:P.size≤140737488355000:=by
    rw[← hP,qO,List.length_append];have:=dH.out;have:=HS.out;simp at *;omega
   have HP:=QH hP;have nK:=QH hPs;rw[hP];clear hP hPs hu hz;go_wp2_with fail;refine(jw P u wr HZ.out nK.out).mono ?_;rintro e w' ⟨rfl,hb'⟩;have HB':=QH (qc HB.out hb');clear hb';go_wp2_with fail;go_roundw;case rel =>
    refine⟨k+1,by omega,by go_num,?_,HB'.out⟩;rw[uh.out,HU.out,← HP.out,zn,List.append_assoc]
   case measure=>simp[intOf];omega
  ·have ja:¬ (k:Int)<(l.length:Int):=by omega
   obtain rfl:k=l.length:=by omega
   rw[List.take_length];go_wp2_with fail;go_ret;exact⟨rfl,HB.out⟩
theorem lq (b:Bool)(w:World):Calls prog 247 #[.bool b] w (fun e w'=>e=.returned (.int .i64 (if b then 1 else 0))∧w'=w):=by
 cases b
 ·go_enter func247,ntmps247;go_wp2_with fail;go_ret;exact⟨rfl,rfl⟩
 ·go_enter func247,ntmps247;go_wp2_with fail;go_ret;exact⟨rfl,rfl⟩
theorem aU (s:ByteArray)(w:World)(hs:s.size≤4611686018427387904) :
    Calls prog 244 #[.string s] w fun e w'=>e=.returned (.int .i64 (nsec s.size:Int))∧w'=w:=by
 have e1:(nsec s.size:Int)=(s.size:Int)/32+(6+(s.size:Int)%32+32-1)/32:=by unfold nsec;omega
 have E1:=QH e1;clear e1;go_enter func244,ntmps244;go_wp2;go_ret;exact⟨by rw[E1.out];rfl,rfl⟩
def qfS (l:List UInt8):List UInt8 × Int:=if 48<nsec l.length then([],3)else(l,0)
theorem qmY(l:List UInt8)(w:World)(hs:l.length≤100000):Calls prog 173 #[.string (str l)] w (fun e w'=>e=.returned (.tuple #[.string (str (qfS l).1),.int .i64 (qfS l).2])∧w'=w):=by
 have HZ:=QH (aU (str l) w (by rw[qO];omega));rw[qO]at HZ;have HR:Hid (qfS l=if 48<nsec l.length then([],3)else(l,0)):=rfl;obtain⟨n,hn⟩:=QE (nsec l.length);rw[hn]at HZ HR;obtain⟨S,hS⟩:=QE (str l);have HS:=QH hS;rw[hS]at HZ ⊢;clear hS hn;by_cases h:48<n
 ·have hi:(48:Int)<(n:Int):=by omega
  have uS:Hid (qfS l=([],3)):=by unfold Hid;rw[HR.out,if_pos h]
  clear h;go_enter func173,ntmps173;go_wp2_with fail;refine HZ.out.mono ?_;rintro e _ ⟨rfl,rfl⟩;go_wp2_with fail;go_ret2;exact⟨by rw[uS.out];rfl,rfl⟩
 ·have hi:¬ (48:Int)<(n:Int):=by omega
  have uS:Hid (qfS l=(l,0)):=by unfold Hid;rw[HR.out,if_neg h]
  clear h;go_enter func173,ntmps173;go_wp2_with fail;refine HZ.out.mono ?_;rintro e _ ⟨rfl,rfl⟩;go_wp2_with fail;go_ret2;exact⟨by rw[uS.out,HS.out];rfl,rfl⟩
end Go.Proofs.YtdpbdkacngaemaaGreatDoor.mt.pg
namespace Go.Proofs.YtdpbdkacngaemaaGreatDoor.mt.pg
open _root_.Go.Proofs.Tryz Go Go.RowKit ib wi im mt
theorem lr (t:Tk)(A:Option Addr)(c:Nat)(w:World)(h:yU w A t.qp c)(hl:t.qp.length≤1000):Calls prog 213 #[.agg (wD t A c)] w (kE (decide (t=yg)) w):=by
 have hb:=(Below.refl w.heap.size w).alloc (Nat.le_refl _) (.cells (wD t A c) 82);have ha:=qh.new w 82 (wD t A c);obtain⟨W,hW⟩:=QE (w.alloc (.cells (wD t A c) 82));rw[hW]at hb ha;have HT:=QH (nW t yg A none c 0 W (h.below hb) (yU.none _) hl);have HB:=QH hb;have a0:=ha.cell 0;have a1:=ha.cell 1;have a2:=ha.cell 2;have a3:=ha.cell 3;have a4:=ha.cell 4;have a5:=ha.cell 5;have a6:=ha.cell 6;have dI:=ha.lt;simp only[wD,QA,QB,QC]at a0 a1 a2 a3 a4 a5 a6;clear hb ha h hl;unfold wD at hW ⊢;go_enter func213,ntmps213;go_upto_region 1 with fail;try rw[hW]
 clear hW;go_wp2_with fail;refine HT.out.mono ?_;rintro e W9 ⟨rfl,hb9⟩;have HB9:=QH (qc HB.out hb9);clear hb9 a0 a1 a2 a3 a4 a5 a6 dI;go_wp2_with fail;go_ret;exact⟨rfl,HB9.out⟩
theorem qcL(b n:Int)(last:Gd):kz b n last yg=0:=by unfold kz;rw[if_pos (show yg.target=(0,0)from rfl),if_pos (show rk yg=true by decide)]
theorem qcM(last:Gd):above (0,0) last=false:=by unfold above;simp
theorem qfT{b n:Int}{last:Gd}{t:Tk}(h:t≠yg)(hb:wJ t last b=true):kz b n last t=2:=by
 unfold kz;by_cases h0:t.target=(0,0)
 ·rw[if_pos h0,if_neg];intro h1;apply h;unfold rk at h1;simp only[Bool.and_eq_true,decide_eq_true_eq]at h1;obtain⟨⟨⟨e1,e2⟩,e3⟩,e4⟩:=h1;cases t;simp only at e1 e2 e3 e4 h0;subst e1 e2 e3 e4 h0;rfl
 ·rw[if_neg h0,if_pos hb]
theorem qcN{b n:Int}{last:Gd}{t:Tk}(hb:wJ t last b=false):kz b n last t=zA t.qp b n:=by
 unfold kz;rw[if_neg,if_neg (by rw[hb];decide)];intro h0;unfold wJ at hb;rw[h0,qcM]at hb;simp at hb
theorem lu (t:Tk)(A:Option Addr)(c:Nat)(last:Gd)(b n:Int)(w:World)(h:yU w A t.qp c)(hl:t.qp.length≤1000)(hb:qA b)(hn:qA n) :
    Calls prog 128 #[.agg (wD t A c),gv last,.int .i64 b,.int .i64 n] w (ai (kz b n last t) w):=by
 have HN:=QH (And.intro hb hn);have HL:=QH hl;have hb1:=(Below.refl w.heap.size w).alloc (Nat.le_refl _) (.cells (wD t A c) 82);have ha1:=qh.new w 82 (wD t A c);obtain⟨W1,hW1⟩:=QE (w.alloc (.cells (wD t A c) 82));rw[hW1]at hb1 ha1;have hb2:=(Below.refl W1.heap.size W1).alloc (Nat.le_refl _) (.cells #[.int .u64 (last.1:Int),.int .u64 (last.2:Int)] 38);have ha2:=qh.new W1 38 #[.int .u64 (last.1:Int),.int .u64 (last.2:Int)];obtain⟨W2,hW2⟩:=QE (W1.alloc (.cells #[.int .u64 (last.1:Int),.int .u64 (last.2:Int)] 38));rw[hW2]at hb2 ha2;have HB:=QH (qc hb1 hb2);have HA:=QH (ha1.below hb2);have HG:=QH ha2;have HI:=QH (h.below HB.out);have HT:=QH (lr t A c W2 HI.out hl);have a0:=HA.out.cell 0;have a1:=HA.out.cell 1;have a2:=HA.out.cell 2;have a3:=HA.out.cell 3;have a4:=HA.out.cell 4;have a5:=HA.out.cell 5;have a6:=HA.out.cell 6;have dI:=HA.out.lt;simp only[wD,QA,QB,QC]at a0 a1 a2 a3 a4 a5 a6;clear hb1 ha1 hb2 ha2 h hl hb hn;obtain⟨res,hres⟩:=QE (kz b n last t);rw[hres];have xn:=QH hres;clear hres;unfold wD at hW1 ⊢;unfold gv;go_enter func128,ntmps128;go_upto_region 1 with fail;try rw[hW2]
 clear hW1 hW2;obtain⟨gg,hgg⟩:=QE W1.heap.size;rw[hgg]at HG;try rw[hgg]
 clear hgg;go_wp2_with fail;refine HT.out.mono ?_;rintro e W3 ⟨rfl,hb3⟩;have zG:=QH (qc HB.out hb3);have hA:=HA.out.below hb3;have hG:=HG.out.below hb3;have HI3:=QH (HI.out.below hb3);have fx:=QH hA;have tR:=QH hG;have a0:=hA.cell 0;have a1:=hA.cell 1;have a2:=hA.cell 2;have a3:=hA.cell 3;have a4:=hA.cell 4;have a5:=hA.cell 5;have a6:=hA.cell 6;have g0:=hG.cell 0;have g1:=hG.cell 1;have dI:=hA.lt;have hlg:=hG.lt;simp only[wD,QA,QB,QC]at a0 a1 a2 a3 a4 a5 a6 g0 g1;clear hb3 hA hG HA HG HI;by_cases h0:t=yg
 case' pos =>
  rw[decide_eq_true h0];have HR:Hid (res=0):=by unfold Hid;rw[← xn.out,h0,qcL]
  clear h0;go_wp2_with fail;go_ret;exact⟨by rw[HR.out];rfl,zG.out⟩
 rw[decide_eq_false h0];have jK:Hid (wJ t last b=true→res=2):=fun hq=>by rw[← xn.out];exact qfT h0 hq
 have qzY:Hid (wJ t last b=false→res=zA t.qp b n):=fun hq=>by rw[← xn.out];exact qcN hq
 have yu:Hid (wJ t last b=(!decide (t.base=last) || !above t.target last || decide (t.next<1) || decide (t.all≤t.next) || decide (b<t.all))):=rfl;clear h0 xn;by_cases h1:t.base=last
 case' neg =>
  have HR:Hid (res=2):=jK.out (by rw[yu.out,decide_eq_false h1];simp);have hgn:=fE h1;clear h1;rcases hgn with hgn|⟨hgn,quA⟩
  ·go_wp2_with fail;go_ret;exact⟨by rw[HR.out];rfl,zG.out⟩
  ·go_wp2_with fail;go_ret;exact⟨by rw[HR.out];rfl,zG.out⟩
 rw[h1]at a0 a1;have H1:=QH h1;have HAB:=QH (uU t.target last W3);clear h1;unfold gv at HAB;go_wp2_with fail;refine HAB.out.mono ?_;rintro e W4 ⟨rfl,hb4⟩;have zY:=QH (qc zG.out hb4);have hA:=fx.out.below hb4;have HI4:=QH (HI3.out.below hb4);have a4:=hA.cell 4;have a5:=hA.cell 5;have a6:=hA.cell 6;have dI:=hA.lt;simp only[wD,QA,QB,QC]at a4 a5 a6;clear hb4 hA a0 a1 a2 a3 g0 g1 hlg fx tR HI3;obtain⟨q,hq⟩:=QE (above t.target last);rw[hq];cases q with
 | false =>
  have HR:Hid (res=2):=jK.out (by rw[yu.out,hq];simp);clear hq;go_wp2_with fail;go_ret;exact⟨by rw[HR.out];rfl,zY.out⟩
 | true =>
  have HQ:=QH hq;clear hq;by_cases h2:t.next<1
  ·have HR:Hid (res=2):=jK.out (by rw[yu.out,decide_eq_true h2];simp);go_wp2_with fail;go_ret;exact⟨by rw[HR.out];rfl,zY.out⟩
  by_cases h3:t.all≤t.next
  ·have HR:Hid (res=2):=jK.out (by rw[yu.out,decide_eq_true h3];simp);go_wp2_with fail;go_ret;exact⟨by rw[HR.out];rfl,zY.out⟩
  by_cases h4:b<t.all
  ·have HR:Hid (res=2):=jK.out (by rw[yu.out,decide_eq_true h4];simp);go_wp2_with fail;go_ret;exact⟨by rw[HR.out];rfl,zY.out⟩
  have HR:Hid (res=zA t.qp b n):=qzY.out (by rw[yu.out,HQ.out,decide_eq_true H1.out,decide_eq_false h2,decide_eq_false h3,decide_eq_false h4];rfl);go_wp2_with fail;refine(ak A c t.qp b n W4 HI4.out HL.out HN.out.1 HN.out.2).mono ?_;rintro e W5 ⟨rfl,hb5⟩;have jU:=QH (qc zY.out hb5);rw[← HR.out];clear hb5 a4 a5 a6 dI h2 h3 h4;go_wp2_with fail;go_ret;exact⟨rfl,jU.out⟩
end Go.Proofs.YtdpbdkacngaemaaGreatDoor.mt.pg
namespace Go.Proofs.YtdpbdkacngaemaaGreatDoor.mt
open _root_.Go.Proofs.Tryz Go Go.RowKit Go.Sort ib
end Go.Proofs.YtdpbdkacngaemaaGreatDoor.mt
namespace Go.Proofs.YtdpbdkacngaemaaGreatDoor.im
open _root_.Go.Proofs.Tryz Go Go.RowKit ib
theorem quY{w wr:World}(h:Below w.heap.size w wr)(n:Nat):Below w.heap.size w (wr.drewN n):=⟨h.os,h.tape,h.output,h.size,h.block⟩
end Go.Proofs.YtdpbdkacngaemaaGreatDoor.im
namespace Go.Proofs.YtdpbdkacngaemaaGreatDoor.mt
open _root_.Go.Proofs.Tryz Go Go.RowKit ib wi im
theorem qa8{m:Mt}{b n:Int}(h1:zA m.live b n=0)(h2:20<m.qd.length):xf m b n=3:=by
 unfold xf;rw[if_neg (show ¬ zA m.live b n≠0 by rw[h1];simp),if_pos h2]
theorem qfU{m:Mt}{b n:Int}(h1:zA m.live b n=0)(h2:¬ 20<m.qd.length):xf m b n=if (xN b n (0,0) m.qd).1≠0 then(xN b n (0,0) m.qd).1 else kz b n (xN b n (0,0) m.qd).2 m.tok:=by
 unfold xf;rw[if_neg (show ¬ zA m.live b n≠0 by rw[h1];simp),if_neg h2]
theorem qfV{b n:Int}{last:Gd}{x:Sp}{r:List Sp}(h:above x.g last=false):xN b n last (x::r)=(2,last):=by
 conv=>lhs;unfold xN
 rw[h];rfl
theorem qfW{b n:Int}{last:Gd}{x:Sp}{r:List Sp}(h:above x.g last=true)(h0:zA x.qp b n≠0):xN b n last (x::r)=(zA x.qp b n,x.g):=by
 conv=>lhs;unfold xN
 rw[if_pos h,if_neg h0]
theorem qcO{b n:Int}{last:Gd}{x:Sp}{r:List Sp}(h:above x.g last=true)(h0:zA x.qp b n=0):xN b n last (x::r)=xN b n x.g r:=by
 conv=>lhs;unfold xN
 rw[if_pos h,if_pos h0]
end Go.Proofs.YtdpbdkacngaemaaGreatDoor.mt

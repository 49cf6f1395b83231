/- DkFlush, DkWake, DkZero, DkIn, DkNil, DkInG, WiText, FUnpack, WiPutT, JMem, JSteps, JRunW, JPlaces, JLay, VgWr, VgDel, VgShelf, WiEnd. -/
import Derived.Test.YtdpbdkacngaemaaGreatDoorZR5
import Derived.RegionTactic
import Derived.BigRegion
import Derived.Shelf.Strings.Trim
set_option linter.unusedVariables false
set_option linter.unusedSimpArgs false
set_option maxHeartbeats 30000000
set_option maxRecDepth 100000
namespace Go.Proofs.YtdpbdkacngaemaaGreatDoor.dk
open _root_.Go.Proofs.Tryz Go Go.RowKit
section
variable {w:World} {p m:Nat} {v:Value} {d:DD} {own:Nat→Prop}
theorem qjS{most:Nat}(h:zK most w own p d)(hm:d.more.length<most)(jc:most≤100000)(k:Int)(s:ByteArray) :
    Calls prog 194 #[.pointer (some ⟨p,0,none⟩),.int .i64 k,.string s] w (xj most own p (d.write k (bl s)).2 (.int .i64 (d.write k (bl s)).1) w):=by
 unfold DD.write;by_cases h1:d.on=false
 ·rw[if_pos h1];exact qji h h1 k s
 ·rw[if_neg h1];have h1':d.on=true:=by simpa using h1
  by_cases h2:d.has k=false
  ·rw[if_pos (.inl h2)];exact qjj h h1' k h2 s
  ·have h2':d.has k=true:=by simpa using h2
   by_cases h3:s.size=32
   ·rw[if_neg (by rw[zn];rintro(h|h);exact h2 h;exact h h3)];have hf:=qnd d k h2';by_cases h4:(look d.now k).isSome=false∧d.room≤(d.used:Int)
    ·rw[if_pos h4];refine qfF h h1' k h2' s h3 ?_;rw[hf,h4.1,Bool.false_or];simp only[decide_eq_false_iff_not];omega
    ·rw[if_neg h4];have hf':d.fits [k]=true:=by
      rw[hf];by_cases h5:(look d.now k).isSome=true
      ·rw[h5];rfl
      ·have h5':(look d.now k).isSome=false:=by simpa using h5
       rw[h5',Bool.false_or];simp only[decide_eq_true_eq];have:¬ d.room≤(d.used:Int):=fun e=>h4 ⟨h5',e⟩;omega
     by_cases h5:d.oper.on=false
     ·rw[if_pos h5];exact qgn h h1' k h2' s h3 hf' h5
     ·rw[if_neg h5];exact qgo h hm jc h1' k h2' s h3 hf' (by simpa using h5)
   ·rw[if_pos (.inr (by rw[zn];exact h3))];exact qjk h h1' k h2' s h3
theorem qjT{most:Nat}(h:zK most w own p d) :
    Calls prog 195 #[.pointer (some ⟨p,0,none⟩)] w (xj most own p d.flush.2 (.int .i64 d.flush.1) w):=by
 unfold DD.flush;by_cases xc:d.on=false
 ·rw[if_pos xc];have H:=QH h;obtain⟨h0,m,v,h1⟩:=h;obtain⟨c0,c1,c2,c3,c4,c5⟩:=jQ h1.1;rw[xc]at c4;clear h0 h1 c0 c1 c2 c3 c5 xc;go_enter func195,ntmps195;go_wp2_with fail;go_ret;exact⟨rfl,own,H.out,qB.refl _ _,ub.refl _ _⟩
 ·rw[if_neg xc];have qwh:d.on=true:=by simpa using xc
  have HO:=QH (nY h qwh);have H:=QH h;have hp:=h.2.choose_spec.choose_spec.1.lt;obtain⟨h0,m,v,h1⟩:=h;obtain⟨c0,c1,c2,c3,c4,c5⟩:=jQ h1.1;rw[qwh]at c4;clear h0 h1 c0 c1 c2 c3 c5 xc qwh;by_cases hop:d.oper.on=false
  ·rw[if_pos hop];rw[hop]at HO;clear hop;go_enter func195,ntmps195;go_wp2_with (go_at_call 257;refine HO.out.mono ?_;rintro e w3 ⟨rfl,aw,hd3,hb3,hg3⟩;have HD3:=QH hd3;have zB:=QH hb3;have HG3:=QH hg3;clear hd3 hb3 hg3);go_ret;exact⟨rfl,aw,HD3.out,zB.out,HG3.out⟩
  ·rw[if_neg hop];rw[show d.oper.on=true by simpa using hop]at HO;clear hop;go_enter func195,ntmps195;go_wp2_with (go_at_call 257;refine HO.out.mono ?_);rintro e w3 ⟨rfl,aw,hd3,hb3,hg3⟩;have HD3:=QH hd3;have zB:=QH hb3;have HG3:=QH hg3;obtain⟨h30,m3,v3,h31⟩:=hd3;have H30:=QH h30;have H31:=QH h31;obtain⟨A,c,rfl⟩:=xQ h31.2.2.1;obtain⟨g0,g1,g2,g3,g4,g5⟩:=jQ h31.1;have f3:=h31.1.frozen 3;have hp3:=h31.1.lt;clear hb3 hg3 c4 h30 h31 HO;go_wp2_with fail;go_ret;have hne:=H31.out.ne;refine⟨rfl,aw,⟨?_,m3,.slice none 0 0,?_⟩,zB.out.trans (S':=aw) ((qB.refl _ _).setCell _ _ (.inl H31.out.2.2.2.1)) HG3.out,HG3.out⟩
   ·have hl:d.now.length=d.oper.n:=by rw[← dU];exact d.oper.yJ
    refine { H30.out with n0:=?_,n1:=?_,nT:=Nat.zero_le _,at1:=fun _ h=>by simp at h,tL:=?_ }
    ·show 1≤d.now.length;rw[hl];exact H30.out.n0
    ·show d.now.length≤1024;rw[hl];exact H30.out.n1
    ·show ∀v,some v∈d.now→v.length=32;rw[← dU];exact H30.out.qzT
   ·obtain⟨b1,b2,b3,b4,b5,b6,b7⟩:=H31.out;refine⟨?_,?_,⟨rfl,.inl ⟨rfl,rfl⟩⟩,b4,b5,fun k hk=>by simp[Value.ownBlock]at hk,fun k hk=>by rw[size_set];exact b7 k hk⟩
    ·have hl:(DD.n { d.oper with base:=d.now,more:=[] })=d.oper.n:=by
        show d.now.length=d.oper.n;rw[← dU];exact d.oper.yJ
     rw[hl];exact b1.qo 3 _
    ·have hn:(DD.now { d.oper with base:=d.now,more:=[] })=d.oper.now:=by
        show d.now=d.oper.now;rw[dU]
     rw[hn];exact b2.of_block (zV _ _ _ _ _ (fun e=>hne.1 e.symm))
end
end Go.Proofs.YtdpbdkacngaemaaGreatDoor.dk
namespace Go.Proofs.YtdpbdkacngaemaaGreatDoor.dk
open _root_.Go.Proofs.Tryz Go Go.RowKit Go.Shelf
attribute [local go_sem] Oper.semAt_some
def vB (w:World)(a:Option Addr)(bs:List Bool):Prop :=
 ∀i (h:i<bs.length),∃b o,a=some ⟨b,o,none⟩∧b<w.heap.size∧w.cell? ⟨b,o+i,none⟩=some (.bool bs[i])
theorem lift{α:Type}{P:α→Prop}(l:List α)(h:∀x∈l,P x):∃L:List { x // P x },L.map (·.1)=l :=
 ⟨l.attachWith P h,by simp[List.attachWith,List.map_pmap]⟩
theorem qnR:∀(l:List (Nat × Bt)) (s:qE),(∀x∈l,x.1<s.length∧x.2.length=32)→(∀v,some v∈s→v.length=32)→∀x∈jn s l,x.1<s.length∧x.2.1.length=32∧x.2.2.1.length=32
 | [],_,_,_,x,hx=>by simp[jn]at hx
 | (k,v)::r,s,h,hs,x,hx=>by
  simp only[jn,List.mem_cons]at hx;have h0:=h (k,v) (by simp);rcases hx with rfl|hx
  ·refine⟨h0.1,h0.2,?_⟩;show((look s (k:Int)).getD zz).length=32;cases hl:look s (k:Int)with
   | none=>exact qJ
   | some u=>exact hs u (qcG hl)
  ·have hl:(put s k v).length=s.length:=by simp[put]
   have:=qnR r (put s k v) (fun y hy=>by rw[hl];exact h y (by simp[hy])) (fun u hu=>by
    rcases mem_set hu with h' | h'
    ·exact hs u h'
    ·injection h' with h';subst h';exact h0.2) x hx
   rw[hl]at this;exact this
theorem qrS(t:Array Value)(a b:Value):Array.foldl (fun t (x:Tmp × Value)=>t.setIfInBounds x.fst x.snd) t (#[29,30].zip #[a,b])=(t.setIfInBounds 29 a).setIfInBounds 30 b:=by simp
theorem wK {n:Nat}:∀(pre:List (Nat × Wr n)) (s:qE),(pre.foldl (fun s y=>sq s y.2.1) s).length=s.length
 | [],_=>rfl
 | y::pre,s=>by
  rw[List.foldl_cons,wK pre];unfold sq put;split <;> simp
theorem qnS{n:Nat}(base:qE)(more:List (Nat × Bt))(L:List (Wr n))(hL:L.map (fun x=>x.1)=jn base more):(av L).foldl (fun s y=>sq s y.2.1) (qR base more)=base:=by
 have hlen:L.length=more.length:=by rw[← jF more base,← hL,List.length_map]
 have key:∀r,r≤L.length→((av L).take r).foldl (fun s y=>sq s y.2.1) (qR base more)=qR base (more.take (more.length-r)):=by
  intro r
  induction r with
  | zero=>intro _;simp
  | succ r ih =>
   intro h;have hr:r<L.length:=by omega
   have hj:L.length-1-r<more.length:=by omega
   rw[List.take_add_one,qai L r hr,Option.toList_some,List.foldl_append,ih (by omega)];simp only[List.foldl_cons,List.foldl_nil];have hx:(jn base more)[L.length-1-r]?=some (L[L.length-1-r]'(by omega)).1:=by
    rw[← hL,List.getElem?_map,List.getElem?_eq_getElem (by omega)];rfl
   have:=qjf more base (L.length-1-r) hj _ hx;rw[show more.length-r=L.length-1-r+1 by omega,this,show more.length-(r+1)=L.length-1-r by omega]
 have:=key L.length (Nat.le_refl _);rw[List.take_of_length_le (by rw[gz];exact Nat.le_refl _),hlen,Nat.sub_self]at this;simpa[qR]using this
section
variable {w:World} {p m:Nat} {v:Value} {d:DD} {own:Nat→Prop}
theorem qnT{most:Nat}(h:zK most w own p d)(jc:most≤100000)(xc:d.on=false)(A:Option Addr)(c:Nat)(bs:List Bool)(hb:vB w A bs)(hbo:∀b o,A=some ⟨b,o,none⟩→0<bs.length→¬ own b) :
    Calls prog 21 #[.pointer (some ⟨p,0,none⟩),.slice A bs.length c] w (xj most own p (d.qaU bs) (.tuple #[]) w):=by
 have H:=QH h;have hl:=h.low;obtain⟨h0,m,v,h1⟩:=h;obtain⟨c0,c1,c2,c3,c4,c5⟩:=jQ h1.1;rw[xc]at c4;have hp:=h1.1.lt;have hm:=h1.2.1.lt;have f3:=h1.1.frozen 3;have f4:=h1.1.frozen 4;have HL:=QH hl;have H0:=QH h0;have H1:=QH h1;have HB:=QH hb;have HON:=QH xc;obtain⟨Av,cv,hv⟩:=xQ h1.2.2.1;subst hv;clear h0 h1 xc hl hb;refine(callsIn_wide (n:=9)).1 (callsIn_of_wp_marks func21 rfl trivial ?_ rfl);refine wpIn_wide.2 ?_;simp only[ntmps21,List.size_toArray,List.length_cons,List.length_nil,Nat.reduceAdd,Nat.reduceSub,Array.replicate_succ,Array.replicate_zero,List.push_toArray,List.append_toArray,List.nil_append,List.cons_append];go_wp2_with fail;go_region;have HBO:=QH hbo;have hne:=H1.out.ne;have tH:=QH hne;have nS:Hid (qd (((w.setCell ⟨p,4,none⟩ (.bool true)).setCell ⟨p,3,none⟩ (.slice none 0 0)).alloc (.cells #[.pointer (some ⟨p,0,none⟩)] 23)).drew p 88 #[.int .i64 (d.n:Int),.int .i64 d.room,.map (some m),.slice none 0 0,.bool true,.int .i64 d.qz]) :=
  ((H1.out.1.qo 4 (.bool true)).qo 3 (.slice none 0 0)).of_block (Below.heap_alloc _ _ _ (by simp[size_set];omega))
 have fC:∀j,j<w.heap.size→j≠p→(((w.setCell ⟨p,4,none⟩ (.bool true)).setCell ⟨p,3,none⟩ (.slice none 0 0)).alloc (.cells #[.pointer (some ⟨p,0,none⟩)] 23)).drew.heap[j]?=w.heap[j]? :=fun j hj hn =>
  ((Below.heap_alloc _ _ j (by simp[size_set];omega)).trans (zV _ _ _ _ _ hn)).trans (zV _ _ _ _ _ hn)
 have HM1:Hid (zH (((w.setCell ⟨p,4,none⟩ (.bool true)).setCell ⟨p,3,none⟩ (.slice none 0 0)).alloc (.cells #[.pointer (some ⟨p,0,none⟩)] 23)).drew m d.now):=H1.out.2.1.of_block (fC m hm (fun e=>hne.1 e.symm));have HO1:Hid ((((w.setCell ⟨p,4,none⟩ (.bool true)).setCell ⟨p,3,none⟩ (.slice none 0 0)).alloc (.cells #[.pointer (some ⟨p,0,none⟩)] 23)).drew.ownsRow 0 148 66 (.slice Av d.more.length cv) d.more.length (jb (jn d.base d.more))) :=
  zt H1.out.2.2.1 (fun j hj=>fC j (jP H1.out.2.2.1 j hj) (hne.2 j hj).1)
 have HX1:Hid (qd (((w.setCell ⟨p,4,none⟩ (.bool true)).setCell ⟨p,3,none⟩ (.slice none 0 0)).alloc (.cells #[.pointer (some ⟨p,0,none⟩)] 23)).drew w.heap.size 23 #[.pointer (some ⟨p,0,none⟩)]):=by
  have:=heap_alloc_new ((w.setCell ⟨p,4,none⟩ (.bool true)).setCell ⟨p,3,none⟩ (.slice none 0 0)) (.cells #[.pointer (some ⟨p,0,none⟩)] 23)
  rwa [size_set,size_set]at this
 have que:Hid (qB own w (((w.setCell ⟨p,4,none⟩ (.bool true)).setCell ⟨p,3,none⟩ (.slice none 0 0)).alloc (.cells #[.pointer (some ⟨p,0,none⟩)] 23)).drew) :=
  ((((qB.refl _ _).setCell _ _ (.inl H1.out.2.2.2.1)).setCell _ _ (.inl H1.out.2.2.2.1)).alloc _).drew
 have dO:Hid ((((w.setCell ⟨p,4,none⟩ (.bool true)).setCell ⟨p,3,none⟩ (.slice none 0 0)).alloc (.cells #[.pointer (some ⟨p,0,none⟩)] 23)).drew.heap.size=w.heap.size+1):=by unfold Hid;simp[size_set]
 generalize hW1:(((w.setCell ⟨p,4,none⟩ (.bool true)).setCell ⟨p,3,none⟩ (.slice none 0 0)).alloc (.cells #[.pointer (some ⟨p,0,none⟩)] 23)).drew=W1 at *;clear hW1 fC hne hbo c0 c1 c2 c3 c4 c5 f3 f4;have hN:d.more.length≤1000000:=by have:=H0.out.nT;omega
 obtain⟨L,hL⟩:=lift (P:=fun x=>x.1<d.n∧x.2.1.length=32∧x.2.2.1.length=32) (jn d.base d.more) (qnR d.more d.base H0.out.at1 H0.out.tL);have hLl:L.length=d.more.length:=by rw[← jF d.more d.base,← hL,List.length_map]
 have lT:=QH hLl;have HLM:=QH hL;clear hL hLl;go_wp2_with (go_at_call 74;refine(callsIn_wide (n:=9).1 (qdu Fence.wide 9 trivial rfl _ _ _ _)).mono ?_;rintro e w' ⟨rfl,rfl⟩);have q0H:(W1.alloc (.cells #[.slice Av d.more.length cv] 86)).heap.size=w.heap.size+1+1:=by rw[World.size_alloc,dO.out]
 have HBs:Hid (qd (W1.alloc (.cells #[.slice Av d.more.length cv] 86)) W1.heap.size 86 #[.slice Av d.more.length cv]):=qd.new _ _ _;have qdx:∀j,j<W1.heap.size→(W1.alloc (.cells #[.slice Av d.more.length cv] 86)).heap[j]?=W1.heap[j]? :=fun j hj=>Below.heap_alloc _ _ j hj;have ij:Hid (qd (W1.alloc (.cells #[.slice Av d.more.length cv] 86)) p _ _):=nS.out.of_block (qdx p nS.out.lt);have bI:Hid (zH (W1.alloc (.cells #[.slice Av d.more.length cv] 86)) m d.now):=HM1.out.of_block (qdx m HM1.out.lt);have ue:Hid ((W1.alloc (.cells #[.slice Av d.more.length cv] 86)).ownsRow 0 148 66 (.slice Av d.more.length cv) d.more.length (jb (jn d.base d.more))):=zt HO1.out (fun j hj=>qdx j (jP HO1.out j hj));have HX2:Hid (qd (W1.alloc (.cells #[.slice Av d.more.length cv] 86)) w.heap.size 23 #[.pointer (some ⟨p,0,none⟩)]):=HX1.out.of_block (qdx _ HX1.out.lt);have qhY:Hid (qB own w (W1.alloc (.cells #[.slice Av d.more.length cv] 86))):=que.out.alloc _;have qjU:=dO.out;generalize hW2:W1.alloc (.cells #[.slice Av d.more.length cv] 86)=W2 at *;rw[qjU]at HBs;have qnU:=qgm Fence.wide 8 trivial rfl (by decide) (w.heap.size+1) (.slice Av d.more.length cv) L (by have:=lT.out;omega) W2 HBs.out (by rw[lT.out,HLM.out];exact ue.out);have HST:=QH qnU;have q0I:=QH q0H;clear hW2 qdx qnU q0H;rw[qjU];clear qjU dO nS HM1 HO1 HX1 que;have hs2:=q0I.out;refine wpIn_wide.1 (wpIn_rangeFunc_ownH (F:=Fence.wide) (n:=9) rfl (by decide) (gf:=149) (lb:=#[.pointer (some ⟨w.heap.size+1,0,none⟩)]) rfl trivial (enters_of func149 (by kernel_rfl) rfl) HST.out
  (fun h k b hb=>(k b hb).trans (h b hb)) ?hKb (Below.refl _ _) (fun _=>rfl)
  (fun pre W=>zH W m (pre.foldl (fun s y=>sq s y.2.1) d.now)∧qB (fun k=>k=m) W2 W) (fun _ _ _=>False) ?hI (fun _ _ _ _ _ hs _ _=>hs) ⟨bI.out,qB.refl _ _⟩
  (fun x a' W=>∃Bx,W2.heap.size≤Bx∧qd W Bx 148 (qg x.2.1).toArray∧a'={ tmps:=#[.pointer (some ⟨p,0,none⟩),.slice A bs.length c,.pointer (some ⟨w.heap.size,0,none⟩),undef,.slice Av d.more.length cv,undef,.pointer (some ⟨Bx,0,none⟩),undef,undef,.pointer (some ⟨p,0,none⟩),.bool false,.bool false,.pointer (some ⟨p,0,none⟩),.pointer (some ⟨p,0,none⟩),.pointer (some ⟨p,4,none⟩),.bool false,.bool false,.pointer (some ⟨p,0,none⟩),.pointer (some ⟨p,0,none⟩),.pointer (some ⟨p,3,none⟩),.slice Av d.more.length cv,.pointer (some ⟨p,0,none⟩),.pointer (some ⟨p,0,none⟩),.pointer (some ⟨p,0,none⟩),.pointer (some ⟨p,4,none⟩),.pointer (some ⟨p,0,none⟩),.pointer (some ⟨p,3,none⟩),.slice Av d.more.length cv,.func (.func 149) #[] #[.pointer (some ⟨w.heap.size+1,0,none⟩)],.int .i64 (x.1:Int),.agg (qg x.2.1).toArray,undef,undef,undef,undef,undef,undef,undef,undef,undef,undef,undef,undef,undef,undef,undef,undef,undef,undef,undef,undef,undef,undef,undef,undef,undef,undef,undef,undef,undef],defers:=[] })
  ?hAx ?assign ?body ?done ?stop)
 case hKb =>
  intro W l o o' hl ho _ _ b hb;refine World.putObj_heap_other ?_;rcases hb with rfl|hb
  ·omega
  ·have:=jP ue.out b hb;omega
 case hI =>
  intro pre W W' row ⟨h1,h2⟩ hg hr;have tr:=bI.out.lt;refine⟨h1.of_block (hg.block m h1.lt (fun e=>by have:=(hr m e.symm).1;omega)),?_⟩;exact h2.grown hg (fun k e=>.inr (hr k e).1)
 case hAx =>
  intro x a' _ W W' row ⟨Bx,h1,h2,h3⟩ hg hr;refine⟨Bx,h1,h2.of_block (hg.block Bx h2.lt (fun e=>?_)),h3⟩;obtain⟨_,o,ho,hc⟩:=hr Bx e.symm;unfold qd at h2;rw[h2]at ho;injection ho with ho
  subst ho;cases hc
 case assign =>
  rintro l pre x W K ⟨rY,mr⟩ hK;have HK:=QH hK;have HI1:=QH rY;have HI2:=QH mr;have mH:(qg x.2.1).length=66:=zi _ x.2.2.2.1 x.2.2.2.2;have fD:=QH mH;have HXA:=QH (nZ x.2.1);clear hK rY mr mH;dsimp only[qrR];rw[qrS];simp only[List.setIfInBounds_toArray,List.set_cons_succ,List.set_cons_zero]
  gi_wp2_with (first|(refine uT rfl (fun c h=>by cases h) (qdt _ rfl) (jR rfl) ?_)|(refine pw rfl (fun c h=>by cases h) (qds _ _ _ rfl) (qZ W 148 _ _ (.tmp 6) (.tmp 30) rfl rfl rfl (by rw[vN,List.size_toArray,fD.out]) (by rw[List.size_toArray,List.size_toArray,fD.out];exact zi _ qJ qJ) HXA.out) ?_))
  refine HK.out _ _ ((KeepsOthers.alloc _ _).from _) (fun b hb=>Below.heap_alloc _ _ b ?_) ⟨HI1.out.of_block (Below.heap_alloc _ _ _ HI1.out.lt),HI2.out.alloc _⟩ ⟨W.heap.size,HI2.out.size,qd.new _ _ _,rfl⟩;have h1:=HI2.out.size;rcases hb with rfl|hb
  ·omega
  ·have:=jP ue.out b hb;omega
 case body =>
  rintro l pre x a' W hl _ ⟨rY,mr⟩ ⟨Bx,hBx,hX,rfl⟩ hlen;have tr:=bI.out.lt;have ax:∀j,j<W2.heap.size→j≠m→W.heap[j]?=W2.heap[j]? :=fun j hj hn=>mr.block j hj hn;have hPW:qd W p _ _:=ij.out.of_block (ax p ij.out.lt tH.out.1);have hXW:qd W w.heap.size _ _:=HX2.out.of_block (ax _ HX2.out.lt (by omega));have kx:W.cell? ⟨w.heap.size,0,none⟩=some (.pointer (some ⟨p,0,none⟩)):=hXW.cell 0;have k2:W.cell? ⟨p,2,none⟩=some (.map (some m)):=hPW.cell 2;have hpl:=hPW.lt;have tS:(pre.foldl (fun s y=>sq s y.2.1) d.now).length=d.n:=(wK pre d.now).trans d.yJ;have mH:(qg x.2.1).length=66:=zi _ x.2.2.2.1 x.2.2.2.2;have quf:=qmZ hpl k2 rY x.2.1 (qg x.2.1).toArray (rowOf _ x.2.2.2.1 x.2.2.2.2) (by rw[tS];exact x.2.2.1) (by rw[tS];exact H0.out.n1) x.2.2.2.2;have HLo:=QH quf;have HI2:=QH mr;have HX:=QH hX;have fD:=QH mH;have HBX:=QH hBx;clear quf mr hX mH hBx rY ax hPW hXW tS hlen k2
  gi_wp2_with (first|(refine uT rfl (fun c h=>by cases h) (px _ _ rfl) (dS _ rfl Bx rfl _ HX.out (by rw[List.size_toArray,fD.out])) ?_)|(refine⟨trivial,?_⟩;gi_at_call 75;refine(CallsIn.inRound l (callsIn_wide.2 HLo.out)).mono ?_;rintro e W3 ⟨rfl,hm3,hb3⟩))
  have hmW:=HI2.out.size;refine⟨⟨hb3.size,fun j o hj h0 ho=>(hb3.block j (Array.getElem?_eq_some_iff.1 h0).1 (by omega)).trans h0⟩,?_,?_,HI2.out.trans hb3 (fun _ e=>.inl e)⟩
  ·intro b hb;rcases hb with rfl|hb
   ·exact hb3.block _ (by omega) (by omega)
   ·have h1:=jP ue.out b hb;exact hb3.block b (by omega) (tH.out.2 b hb).2
  ·rw[List.foldl_append];exact hm3
 case stop =>
  rintro D c pre W _ _ h _;exact h.elim
 case done =>
  rintro D ys W hD rfl ⟨rY,mr⟩ hK;rw[show d.now=qR d.base d.more from rfl,qnS d.base d.more L HLM.out]at rY;have tr:=bI.out.lt;have ax:∀j,j<W2.heap.size→j≠m→W.heap[j]?=W2.heap[j]? :=fun j hj hn=>mr.block j hj hn;have hPW:qd W p _ _:=ij.out.of_block (ax p ij.out.lt tH.out.1);have hXW:qd W w.heap.size _ _:=HX2.out.of_block (ax _ HX2.out.lt (by omega));have hOW:=zt ue.out (fun j hj=>ax j (jP ue.out j hj) (tH.out.2 j hj).2);have qug:qB own w W:=qhY.out.trans mr (fun j e=>.inl (by subst e;exact H1.out.2.2.2.2.1));have HPW:=QH hPW;have HXW:=QH hXW;have HOW:=QH hOW;have qhZ:=QH qug;have HMW:=QH rY;have HKW:=QH hK;have HD:=QH hD;have HW2:=QH mr.size;have yy:Hid (∀W3,qB (fun k=>k=m) W W3→vB W3 A bs):=fun W3 hW3 i hi=>by
   obtain⟨b,o,hA,hlt,hcell⟩:=HB.out i hi;have hnb:=HBO.out b o hA (by omega);have hbW:=qhZ.out.size;refine⟨b,o,hA,by have:=hW3.size;omega,?_⟩;rw[World.cell?_of_block (a:=⟨b,o+i,none⟩) ((hW3.block b (by omega) (fun e=>hnb (by rw[e];exact H1.out.2.2.2.2.1))).trans (qhZ.out.block b hlt hnb))];exact hcell
  clear rY mr hK ax hPW hXW hOW qug hD ij HX2 ue qhY bI HST HBs;have q9Q:(d.more.length:Int)≤1000000:=by omega
  go_wp2_with fail;go_loopw [36] (fun i wr=>∃k:Nat,k≤d.more.length∧i=.int .i64 (k:Int)∧zH wr m (qR d.base (stay (d.more.take k) bs))∧qB (fun k=>k=m) W wr) (fun i _=>d.more.length-(intOf i).toNat);case atStart=>exact⟨0,Nat.zero_le _,rfl,HMW.out,qB.refl _ _⟩
  case round =>
   obtain⟨k,hk,rfl,hmr,hbr⟩:=hrel;have HMR:=QH hmr;have HBR:=QH hbr;clear hmr hbr;by_cases hlt:k<d.more.length
   ·have qrT:=qnR d.more d.base H0.out.at1 H0.out.tL;have hul:k<(jn d.base d.more).length:=by rw[jF];exact hlt
    have hOr:wr.ownsRow 0 148 66 (.slice Av d.more.length cv) (jn d.base d.more).length (jb (jn d.base d.more)):=by
     rw[jF];exact zt HOW.out (fun j hj=>HBR.out.block j (jP HOW.out j hj) (tH.out.2 j hj).2)
    obtain⟨g,c',cur,hv,hlc,hcm,hg,xg⟩:=qhW hOr (fun y hy=>zi _ (qrT y hy).2.1 (qrT y hy).2.2) k hul;rw[jF]at hv hlc;simp only[Value.slice.injEq,true_and]at hv;obtain⟨rfl,rfl⟩:=hv;have hx:=nU d.more d.base k hlt;rw[List.getElem?_eq_getElem hul]at hx;injection hx with hx
    have hxo:=qrT _ (List.getElem_mem hul);have hx1:(jn d.base d.more)[k].1=d.more[k].1:=by rw[hx]
    have hx2:(jn d.base d.more)[k].2.1=d.more[k].2:=by rw[hx]
    generalize (jn d.base d.more)[k]=x at *;clear hx qrT hOr hul;have mH:(qg x).length=66:=zi _ hxo.2.1 hxo.2.2;have qnQ:=rowOf x hxo.2.1 hxo.2.2;have quh:=tO d.more bs k hlt;have dx:(qR d.base (stay (d.more.take k) bs)).length=d.n:=zA _ _;have HG:=QH hg;have qwk:=QH xg;have fD:=QH mH;have qnB:=QH qnQ;have HXO:=QH hxo;have HX1:=QH hx1;have HX2:=QH hx2;have HST:=QH quh;have ig:=QH dx;have HCM:=QH hcm;have HLC:=QH hlc;have dt:=QH (yy.out (wr.alloc (.cells (qg x).toArray 148)) (HBR.out.alloc _));have hXr:wr.cell? ⟨w.heap.size,0,none⟩=some (.pointer (some ⟨p,0,none⟩)):=by
     rw[World.cell?_of_block (a:=⟨w.heap.size,0,none⟩) (HBR.out.block _ HXW.out.lt (Nat.ne_of_gt hm))];exact HXW.out.cell 0
    have hPr:wr.cell? ⟨p,2,none⟩=some (.map (some m)):=by
     rw[World.cell?_of_block (a:=⟨p,2,none⟩) (HBR.out.block _ HPW.out.lt tH.out.1)];exact HPW.out.cell 2
    have eH:w.heap.size<wr.heap.size:=by have:=HBR.out.size;have:=HXW.out.lt;omega
    have hpl:p<wr.heap.size:=by omega
    clear hg xg mH qnQ hxo hx1 hx2 quh dx hcm hlc;by_cases hbl:k<bs.length
    ·obtain⟨bb,bo,rfl,hbb,hcb⟩:=dt.out k hbl;have qnW:bs[k]?.getD false=bs[k]:=by rw[List.getElem?_eq_getElem hbl];rfl
     have qjW:=QH qnW;have HHB:=QH HB;have hbi:(k:Int)<(bs.length:Int):=by omega
     have q0K:(bs.length:Int)≤9223372036854775807∨True:=.inr trivial;clear dt yy HB HBO qnW q0K;cases sG:bs[k]with
     | true =>
      rw[sG]at hcb qjW;clear sG;go_wp2_with (first|(refine qh rfl (qF 148 (.tmp 39) rfl g (k*66) rfl _ cur (qg x) _ _ HG.out underlying148 rfl (by rw[vN,fD.out]) qwk.out) ?_)|(refine qh rfl (jR rfl) ?_)|(refine wpList_skip rfl (qZ wr 148 _ _ (.tmp 8) (.tmp 40) rfl rfl rfl (by rw[vN,List.size_toArray,fD.out]) (by rw[List.size_toArray,List.size_toArray,fD.out];exact zi _ qJ qJ) (nZ _)) ?_));have qwl:qd (wr.alloc (.cells (qg x).toArray 148)) wr.heap.size 148 (qg x).toArray:=qd.new _ _ _;have q5G:=QH qwl;have q5H:=QH (HMR.out.of_block (Below.heap_alloc wr (.cells (qg x).toArray 148) _ HMR.out.lt));have qhY:=QH (HBR.out.alloc (.cells (qg x).toArray 148));have q0:(wr.alloc (.cells (qg x).toArray 148)).cell? ⟨wr.heap.size,0,none⟩=some (.int .i64 (x.1:Int)):=by rw[qwl.cell 0];exact qnB.out.at_
      have qx:(wr.alloc (.cells (qg x).toArray 148)).cell? ⟨w.heap.size,0,none⟩=some (.pointer (some ⟨p,0,none⟩)):=(World.cell?_of_block (a:=⟨w.heap.size,0,none⟩) (Below.heap_alloc _ _ _ eH)).trans hXr;have qp:(wr.alloc (.cells (qg x).toArray 148)).cell? ⟨p,2,none⟩=some (.map (some m)):=(World.cell?_of_block (a:=⟨p,2,none⟩) (Below.heap_alloc _ _ _ hpl)).trans hPr;have hbd:(Lib.byteCells x.2.1).length=32:=by rw[Lib.byteCells_length,HXO.out.2.1]
      have HBD:=QH hbd;clear qwl hcb hXr hPr hbd;generalize wr.alloc (.cells (qg x).toArray 148)=wr2 at *;refine xe 8 (by kernel_rfl) (by kernel_rfl) ?_;simp only[List.take_succ_cons,List.take_zero,List.drop_succ_cons,List.drop_zero]
      iterate 7 still_step
      refine yE rfl (qF _ _ rfl wr.heap.size 1 rfl _ _ (Lib.byteCells x.2.1) _ _ q5G.out underlying146 rfl (by rw[bX,HBD.out]) qnB.out.data) ?_;refine wpStill_nil ?_;refine kU (w:=wr2.drew) rfl _ _ _ rfl rfl q5H.out x.1 rfl x.2.1 rfl (by rw[ig.out];exact HXO.out.1) (by rw[ig.out];exact H0.out.n1) ?_;intro w9 hm9 ht9;have HM9:=QH hm9;have HT9:=QH (yL ht9);clear hm9 ht9;go_wp2_with fail;go_roundw;case rel =>
       refine⟨k+1,by omega,by go_num,?_,qhY.out.drew.trans HT9.out (fun _ e=>.inl e)⟩;rw[HST.out,qjW.out];simp only[if_true];rw[show d.more[k]=(d.more[k].1,d.more[k].2)from rfl,wk,← HX1.out,← HX2.out];exact HM9.out
      case measure=>simp[intOf];omega
     | false =>
      rw[sG]at hcb qjW;clear sG;go_wp2_with (first|(refine qh rfl (qF 148 (.tmp 39) rfl g (k*66) rfl _ cur (qg x) _ _ HG.out underlying148 rfl (by rw[vN,fD.out]) qwk.out) ?_)|(refine qh rfl (jR rfl) ?_)|(refine wpList_skip rfl (qZ wr 148 _ _ (.tmp 8) (.tmp 40) rfl rfl rfl (by rw[vN,List.size_toArray,fD.out]) (by rw[List.size_toArray,List.size_toArray,fD.out];exact zi _ qJ qJ) (nZ _)) ?_));go_roundw;case rel =>
       refine⟨k+1,by omega,by go_num,?_,HBR.out.alloc _⟩;rw[HST.out,qjW.out];simp only[Bool.false_eq_true,if_false,List.append_nil];exact HMR.out.of_block (Below.heap_alloc _ _ _ HMR.out.lt)
      case measure=>simp[intOf];omega
    ·have qnW:bs[k]?.getD false=false:=by rw[List.getElem?_eq_none (by omega)];rfl
     have qjW:=QH qnW;clear qnW dt yy HB HBO;go_wp2_with (first|(refine qh rfl (qF 148 (.tmp 39) rfl g (k*66) rfl _ cur (qg x) _ _ HG.out underlying148 rfl (by rw[vN,fD.out]) qwk.out) ?_)|(refine qh rfl (jR rfl) ?_)|(refine wpList_skip rfl (qZ wr 148 _ _ (.tmp 8) (.tmp 40) rfl rfl rfl (by rw[vN,List.size_toArray,fD.out]) (by rw[List.size_toArray,List.size_toArray,fD.out];exact zi _ qJ qJ) (nZ _)) ?_));go_roundw;case rel =>
      refine⟨k+1,by omega,by go_num,?_,HBR.out.alloc _⟩;rw[HST.out,qjW.out];simp only[Bool.false_eq_true,if_false,List.append_nil];exact HMR.out.of_block (Below.heap_alloc _ _ _ HMR.out.lt)
     case measure=>simp[intOf];omega
   ·have hkn:k=d.more.length:=by omega
    subst hkn;go_wp2_with fail;refine⟨by simp,.inl ⟨_,_,rfl,run_takeDeferred (b:=D) (ds:=[]) ?_,?_⟩⟩
    ·exact(HBR.out.block D (Array.getElem?_eq_some_iff.1 HKW.out).1 (by have:=HD.out;exact Nat.ne_of_gt (by omega))).trans HKW.out
    ·have hDm:D≠m:=by have:=HD.out;omega
     have hput:∀j,j<W2.heap.size→(wr.putObj D (.deferred none)).heap[j]?=wr.heap[j]? :=fun j hj=>World.putObj_heap_other (by have:=HD.out;omega);have hps:(wr.putObj D (.deferred none)).heap.size=wr.heap.size:=by simp
     have hpl:=HPW.out.lt;have hb1:=HBR.out.size;have hdw:d.qaU bs={ d with base:=qR d.base (stay d.more bs),more:=[],on:=true }:=by
      unfold DD.qaU;rw[HON.out];rfl
     rw[hdw];have hml:=HMR.out;rw[List.take_of_length_le (Nat.le_refl _)]at hml;refine⟨_,results_none rfl _ _ _,rfl,own,⟨?_,m,.slice none 0 0,?_⟩,?_,ub.refl _ _⟩
     ·have hst:∀y∈stay d.more bs,y.1<d.n∧y.2.length=32:=fun y hy=>H0.out.at1 y (eL _ _ _ hy);refine { H0.out with n0:=?_,n1:=?_,nT:=Nat.zero_le _,at1:=fun _ h=>by simp at h,tL:=wm H0.out.tL (fun y hy=>(hst y hy).2) }
      ·show 1≤(qR d.base (stay d.more bs)).length;rw[zA];exact H0.out.n0
      ·show(qR d.base (stay d.more bs)).length≤1024;rw[zA];exact H0.out.n1
     ·refine⟨?_,?_,⟨rfl,.inl ⟨rfl,rfl⟩⟩,H1.out.2.2.2.1,H1.out.2.2.2.2.1,fun j hj=>by simp[Value.ownBlock]at hj,fun j hj=>?_⟩
      ·have e:(DD.n { d with base:=qR d.base (stay d.more bs),more:=[],on:=true })=d.n:=zA _ _;rw[e];refine(HPW.out.of_block (HBR.out.block p hpl tH.out.1)).of_block (hput p (by omega))
      ·exact hml.of_block (hput m (by omega))
      ·have h1:=HL.out j hj;have h2:=qhZ.out.size;rw[hps];omega
     ·refine(qhZ.out.trans HBR.out (fun j e=>.inl (by subst e;exact H1.out.2.2.2.2.1))).grown (grownBy_putObj' wr D _) (fun j e=>.inr ?_);injection e with e
      have h1:=HD.out;have h2:=q0I.out;omega
end
end Go.Proofs.YtdpbdkacngaemaaGreatDoor.dk
namespace Go.Proofs.YtdpbdkacngaemaaGreatDoor.dk
open _root_.Go.Proofs.Tryz Go Go.RowKit
theorem lC (z:Nat):madeCells #[Value.int .u8 0] z=(Lib.byteCells (List.replicate z 0)).toArray:=by
 apply Array.ext';apply List.ext_getElem?;intro j;by_cases hj:j<z <;> simp[madeCells,Lib.byteCells,hj,Nat.mod_one]
def part (c:UInt8)(k:Nat):Array Value:=(Lib.byteCells (List.replicate k c++List.replicate (32-k) 0)).toArray
def In (most:Nat)(w:World)(B p:Nat)(d:DD):Prop:=∃own,zK most w own p d∧∀k,own k→B≤k
def qrU (most B p:Nat)(d:DD)(r:Value)(w:World)(e:Ending)(w':World):Prop:=e=.returned r∧In most w' B p d∧Below w.heap.size w w'
theorem In.below{most:Nat}{w w':World}{B p:Nat}{d:DD}(h:In most w B p d)(hb:Below w.heap.size w w'):In most w' B p d:=by
 obtain⟨own,h1,h2⟩:=h;exact⟨own,h1.below hb,h2⟩
theorem In.ok{most:Nat}{w:World}{B p:Nat}{d:DD}(h:In most w B p d):d.ok most:=by
 obtain⟨own,h1,h2⟩:=h;exact h1.1
theorem In.mono{most qui:Nat}{w:World}{B p:Nat}{d:DD}(h:In most w B p d)(hm:most≤qui):In qui w B p d:=by
 obtain⟨own,⟨h1,h3⟩,h2⟩:=h;exact⟨own,⟨h1.mono hm,h3⟩,h2⟩
theorem In.lt{most:Nat}{w:World}{B p:Nat}{d:DD}(h:In most w B p d):B≤p∧p<w.heap.size:=by
 obtain⟨own,⟨_,m,v,h1⟩,h2⟩:=h;exact⟨h2 p h1.2.2.2.1,h1.1.lt⟩
section
variable {most:Nat} {w:World} {B p:Nat} {d:DD}
theorem qia(h:In most w B p d)(k:Int)(v:Bt)(s:ByteArray)(hs:str v=s)(r:Int)(h1:d.read k=(v,r)) :
    Calls prog 122 #[.pointer (some ⟨p,0,none⟩),.int .i64 k] w (qrU most B p d (.tuple #[.string s,.int .i64 r]) w):=by
 have hI:=h;obtain⟨own,hd,ho⟩:=h;subst hs;have key:Calls prog 122 #[.pointer (some ⟨p,0,none⟩),.int .i64 k] w (wu (d.read k) w):=by
  obtain⟨h0,m,v,h1⟩:=hd;unfold DD.read;by_cases xc:d.on=false
  ·rw[if_pos xc];exact qcK h1 xc k
  ·rw[if_neg xc];by_cases hh:d.has k=false
   ·rw[if_pos hh];exact qcL h1 (by simpa using xc) k hh
   ·rw[if_neg hh];exact qhI h0 h1 (by simpa using xc) k (by simpa using hh)
 rw[h1]at key;exact key.mono fun e w' h=>⟨h.1,hI.below h.2,h.2⟩
end
end Go.Proofs.YtdpbdkacngaemaaGreatDoor.dk
namespace Go.Proofs.YtdpbdkacngaemaaGreatDoor.dk
open _root_.Go.Proofs.Tryz Go Go.RowKit
theorem In.base{most:Nat}{w:World}{B B' p:Nat}{d:DD}(h:In most w B p d)(hB:B'≤B):In most w B' p d:=by
 obtain⟨own,h1,h2⟩:=h;exact⟨own,h1,fun k hk=>Nat.le_trans hB (h2 k hk)⟩
def InG (most:Nat)(w:World)(G:Nat→Prop)(p:Nat)(d:DD):Prop:=∃own,zK most w own p d∧∀k,own k→G k
def py (most:Nat)(G:Nat→Prop)(p:Nat)(d:DD)(r:Value)(w:World)(e:Ending)(w':World):Prop:=e=.returned r∧InG most w' G p d∧qB G w w'
theorem InG.below{most:Nat}{w w':World}{G:Nat→Prop}{p:Nat}{d:DD}(h:InG most w G p d)(hb:Below w.heap.size w w'):InG most w' G p d:=by
 obtain⟨own,h1,h2⟩:=h;exact⟨own,h1.below hb,h2⟩
theorem InG.ok{most:Nat}{w:World}{G:Nat→Prop}{p:Nat}{d:DD}(h:InG most w G p d):d.ok most:=by
 obtain⟨own,h1,h2⟩:=h;exact h1.1
theorem qal{most:Nat}{w:World}{G:Nat→Prop}{p:Nat}{d:DD}{own:Nat→Prop}{r:Value}(hG:∀k,w.heap.size≤k→G k)(ho:∀k,own k→G k){e:Ending}{w':World}(h:xj most own p d r w e w'):py most G p d r w e w':=by
 obtain⟨rfl,yK,h1,h2,h3⟩:=h;refine⟨rfl,⟨yK,h1,fun k hk=>?_⟩,h2.mono ho⟩;rcases h3 k hk with h|h
 ·exact ho k h
 ·exact hG k h
section
variable {most:Nat} {w:World} {p:Nat} {G:Nat→Prop} {d:DD}
theorem qrV(h:InG most w G p d)(hG:∀k,w.heap.size≤k→G k)(hm:d.more.length<most)(jc:most≤100000)(k:Int)(s:ByteArray)(v:Bt)(hs:bl s=v)(r:Int)(d':DD)(h1:(d.write k v).1=r)(h2:(d.write k v).2=d') :
    Calls prog 194 #[.pointer (some ⟨p,0,none⟩),.int .i64 k,.string s] w (py most G p d' (.int .i64 r) w):=by
 obtain⟨own,hd,ho⟩:=h;subst hs h1 h2;exact(qjS hd hm jc k s).mono fun _ _ h=>qal hG ho h
theorem qrW(h:InG most w G p d)(hG:∀k,w.heap.size≤k→G k)(r:Int)(d':DD)(h1:d.flush.1=r)(h2:d.flush.2=d') :
    Calls prog 195 #[.pointer (some ⟨p,0,none⟩)] w (py most G p d' (.int .i64 r) w):=by
 obtain⟨own,hd,ho⟩:=h;subst h1 h2;exact(qjT hd).mono fun _ _ h=>qal hG ho h
end
end Go.Proofs.YtdpbdkacngaemaaGreatDoor.dk
namespace Go.Proofs.YtdpbdkacngaemaaGreatDoor.wi
open _root_.Go.Proofs.Tryz Go.RowKit
def qwm (b:Nat)(l:List UInt8)(x:Bool)(w:World)(e:Ending)(w':World):Prop :=
 w.grownBy w' (some b) ∧
  ((∃t r,jd l=some (t,r)∧e=.returned (.tuple #[.string (str t),.bool true])∧zw b r x w') ∨
   (jd l=none∧e=.returned (.tuple #[.string (str []),.bool false])∧∃m,zw b m x w'))
theorem qnX(b:Nat)(l:List UInt8)(x:Bool)(w:World)(h:zw b l x w) :
    Calls prog 283 #[.func (.func 281) #[.pointer (some ⟨b,0,none⟩)] #[]] w (qwm b l x w):=by
 go_enter func283,ntmps283;go_wp2_with (go_at_call 254;refine(ew b l x _ h).mono ?_);rintro e w1 ⟨hg,⟨n,r,hn,rfl,hr⟩|⟨hn,rfl,m,hm⟩⟩
 ·have q5I:=(dB l n r hn).2;have Hn:=QH hn;have Hg:=QH hg;obtain⟨g,o,cap,hR⟩:=hr;by_cases hlt:r.length<n
  ·have hT:jd l=none:=by unfold jd;rw[Hn.out];simp[hlt]
   have HT:=QH hT;clear hT hg hn;go_wp2_with (go_at_call 281;refine(qaI b g o cap r x (n:Int) _ hR (by omega)).mono ?_;rintro e w' ⟨rfl,rfl⟩);go_ret2;exact⟨Hg.out,.inr ⟨HT.out,rfl,r,g,o,cap,hR⟩⟩
  ·have hT:jd l=some (r.take n,r.drop n):=by unfold jd;rw[Hn.out];simp[hlt]
   have HT:=QH hT;have bE:(r.take n).length=n:=by simp;omega
   have Hln:=QH bE;clear hT hg hn bE;go_wp2_with (go_at_call 281;refine(uD b g o cap r x (n:Int) _ hR (by omega) (by omega)).mono ?_);rintro e w2 ⟨rfl,h1,h2,h3⟩;rw[Int.toNat_natCast]at h1 h3;have hcv:=run_convert_bytes_back (P:=prog) w2 64 9 5 ⟨g,o,none⟩ n (r.take n) underlying64 underlying5 underlying9 (by
    intro j hj;rw[addr_add];exact h3.cell j hj)
   rw[Hln.out]at hcv;have qyY:(convert 64 9 (.slice (some ⟨g,o,none⟩) n n)).run prog w2=.ok (.string (str (r.take n))) w2:=hcv;have H1:=QH h1;have H2:=QH h2;clear h1 h2 h3 hcv;go_wp2;go_ret2;exact⟨x9 Hg.out H2.out,.inl ⟨_,_,HT.out,rfl,_,_,_,H1.out⟩⟩
 ·have hT:jd l=none:=by unfold jd;rw[hn]
  have HT:=QH hT;have Hg:=QH hg;clear hT hg hn;go_wp2;go_ret2;exact⟨Hg.out,.inr ⟨HT.out,rfl,m,hm⟩⟩
def fE (b:Nat)(l:List UInt8)(w:World)(e:Ending)(w':World):Prop :=
 w.grownBy w' (some b) ∧
  ((∃t r,jd l=some (t,r)∧e=.returned (.string (str t))∧zw b r false w') ∨
   (jd l=none∧e=.returned (.string (str []))∧∃m,zw b m true w'))
theorem qbz(b:Nat)(l:List UInt8)(w:World)(h:zw b l false w) :
    Calls prog 282 #[.pointer (some ⟨b,0,none⟩),.func (.func 283) #[] #[]] w (fE b l w):=by
 go_enter func282,ntmps282;go_wp2_with (go_at_call 280;refine(qeR b l _ h).mono ?_;rintro e w' ⟨rfl,rfl⟩);go_wp2_with (go_at_call 283;refine(qnX b l false _ h).mono ?_);rintro e w1 ⟨hg,⟨n,r,hn,rfl,hr⟩|⟨hn,rfl,m,hm⟩⟩
 ·have Hn:=QH hn;have Hg:=QH hg;obtain⟨hc,hf⟩:=hr.cell1;have Hr:=QH (hr.flag false);clear hn hg hr;go_wp2;go_ret;exact⟨x9 Hg.out (zw.aN _ _ _),.inl ⟨n,r,Hn.out,rfl,Hr.out⟩⟩
 ·have Hn:=QH hn;have Hg:=QH hg;obtain⟨hc,hf⟩:=hm.cell1;have Hr:=QH (hm.flag true);clear hn hg hm;go_wp2;go_ret;exact⟨x9 Hg.out (zw.aN _ _ _),.inr ⟨Hn.out,rfl,m,Hr.out⟩⟩
theorem qb0(b:Nat)(l:List UInt8)(w:World)(h:zw b l true w) :
    Calls prog 282 #[.pointer (some ⟨b,0,none⟩),.func (.func 283) #[] #[]] w fun e w'=>e=.returned (.string (str []))∧w=w':=by
 go_enter func282,ntmps282;go_wp2_with (go_at_call 280;refine(qmd b l _ h).mono ?_;rintro e w' ⟨rfl,rfl⟩);go_ret;exact⟨rfl,rfl⟩
theorem qgq(b:Nat)(l:List UInt8)(w:World)(h:zw b l false w):Calls prog 255 #[.pointer (some ⟨b,0,none⟩)] w (fE b l w):=by
 go_enter func255,ntmps255;go_wp2_with (go_at_call 282;refine(qbz b l _ h).mono ?_);rintro e w1 ⟨hg,⟨n,r,hn,rfl,hr⟩|⟨hn,rfl,hm⟩⟩
 ·have H:Hid (fE b l w (.returned (.string (str n))) w1):=⟨hg,.inl ⟨n,r,hn,rfl,hr⟩⟩;clear hg hn hr;go_wp2;go_ret;exact H.out
 ·have H:Hid (fE b l w (.returned (.string (str []))) w1):=⟨hg,.inr ⟨hn,rfl,hm⟩⟩;clear hg hn hm;go_wp2;go_ret;exact H.out
theorem qjY(b:Nat)(l:List UInt8)(w:World)(h:zw b l true w):Calls prog 255 #[.pointer (some ⟨b,0,none⟩)] w fun e w'=>e=.returned (.string (str []))∧w=w':=by
 go_enter func255,ntmps255;go_wp2_with (go_at_call 282;refine(qb0 b l _ h).mono ?_;rintro e w' ⟨rfl,rfl⟩);go_ret;exact⟨rfl,rfl⟩
end Go.Proofs.YtdpbdkacngaemaaGreatDoor.wi
namespace Go.Proofs.YtdpbdkacngaemaaGreatDoor
open _root_.Go.Proofs.Tryz Go.RowKit
def quj (s:ByteArray)(w:World)(e:Ending)(w':World):Prop :=
 e=.returned (.tuple #[.string s,.int .i64 0])∧Below w.heap.size w w'
def qwn (w:World)(e:Ending)(w':World):Prop :=
 e=.returned (.tuple #[.string ⟨#[]⟩,.int .i64 4])∧Below w.heap.size w w'
theorem lU (a:Option Addr)(c:Nat)(ps:List (List UInt8))(t:List UInt8)(w:World)(hp:jf w a ps)(hi:vP ps t)(ht:xY w) :
    Calls prog 123 #[.slice a ps.length c] w (quj (str t) w):=by
 have HT:=QH ht;have hg:=ht.1;clear ht;have HP:=QH hp;have hpl:ps.length≤1000:=by rw[hi.2,yf];have:=hi.1;unfold nsec;omega
 have gY:ps.flatten=yM t:=by rw[hi.2,yX]
 have hwl:=jo t;have fF:ps.flatten.length≤100000:=by rw[gY,hwl];have:=hi.1;unfold nsec;omega
 have hput:=po a c ps w hp (by omega) (by omega);have htl:=hi.1;have hsz:=qQ t;have hzl:=qQ ps.flatten;have hts:(str t).size≤8192:=by omega
 have qnY:∀W,Calls prog 198 #[.string (str ps.flatten)] W fun e w'=>e=.returned (.tuple #[.string (str t),.bool true])∧Below W.heap.size W w':=by
  intro W;have:=pq (str ps.flatten) W (by omega);rw[zC,gY,qfK t (by omega)]at this;rw[gY];exact this
 have heq:qN t=ps:=hi.2.symm;have qdr:=QH hput;have qb1:=QH qnY;have Heq:=QH heq;have qwo:=QH (zC t);clear hp hput qnY heq hi gY hwl hsz hzl htl fF;generalize str ps.flatten=f at *;generalize str t=s at *;go_enter func123,ntmps123;go_wp2_with (go_at_call 178;refine qdr.out.mono ?_);rintro e W1 ⟨rfl,b1⟩;go_wp2_with (go_at_call 198;refine(qb1.out _).mono ?_);rintro e W2 ⟨rfl,b2⟩;have b12:=qa b1 b2;have h2:=QH (HT.out.below b12 hg);clear b1 b2;go_wp2_with (go_at_call 101;refine(fB s _ hts h2.out).mono ?_);rintro e W3 ⟨v,rfl,hown,b3⟩;have b13:=qa b12 b3;rw[qwo.out,Heq.out]at hown;obtain⟨a2,c2,rfl,hlc,hcm,hst,_,_⟩:=hown.view;have qnZ:=HP.out.below b13 (Nat.le_refl _);have qgr:=aP a2 a c2 c ps ps W3 hst qnZ (by omega) (by omega);rw[show decide (ps=ps)=true from by simp]at qgr;have qwp:=QH qgr;clear b12 b3 hown hst qnZ qgr h2;go_wp2_with (go_at_call 199;refine qwp.out.mono ?_);rintro e W4 ⟨rfl,b4⟩;have b14:=qa b13 b4;clear b13 b4;go_wp2;go_ret2;exact⟨rfl,b14⟩
theorem lV (a:Option Addr)(c:Nat)(ps:List (List UInt8))(w:World)(hp:jf w a ps)(hpl:ps.length≤1000)(fF:ps.flatten.length≤100000)(hi:∀t,¬ vP ps t)(ht:xY w) :
    Calls prog 123 #[.slice a ps.length c] w (qwn w):=by
 have HT:=QH ht;have hg:=ht.1;clear ht;have HP:=QH hp;have hput:=po a c ps w hp (by omega) (by omega);have hzl:=qQ ps.flatten;have qnY:∀W,Calls prog 198 #[.string (str ps.flatten)] W (qhV (sx ps.flatten) W):=by
  intro W;have:=pq (str ps.flatten) W (by omega)
  rwa [zC]at this
 have qdr:=QH hput;have qb1:=QH qnY;clear hp hput qnY hzl;generalize str ps.flatten=f at *;cases hx:sx ps.flatten with
 | none =>
  rw[hx]at qb1;go_enter func123,ntmps123;go_wp2_with (go_at_call 178;refine qdr.out.mono ?_);rintro e W1 ⟨rfl,b1⟩;go_wp2_with (go_at_call 198;refine(qb1.out _).mono ?_);rintro e W2 ⟨rfl,b2⟩;have b12:=qa b1 b2;clear b1 b2;go_wp2;go_ret2;exact⟨rfl,b12⟩
 | some t =>
  rw[hx]at qb1;have hsz:=qQ t;by_cases htl:8192<t.length
  ·have hts:8192<(str t).size:=by omega
   have hgd:(some t).getD []=t:=rfl;have qoa:Hid (∀W,Calls prog 198 #[.string f] W fun e w'=>e=.returned (.tuple #[.string (str t),.bool true])∧Below W.heap.size W w'):=qb1;clear qb1 hsz;generalize str t=s at *;go_enter func123,ntmps123;go_wp2_with (go_at_call 178;refine qdr.out.mono ?_);rintro e W1 ⟨rfl,b1⟩;go_wp2_with (go_at_call 198;refine(qoa.out _).mono ?_);rintro e W2 ⟨rfl,b2⟩;have b12:=qa b1 b2;clear b1 b2;go_wp2_with (go_at_call 101;refine(qjP s _ hts).mono ?_);rintro e W3 ⟨rfl,b3⟩;have b13:=qa b12 b3;clear b12 b3;go_wp2;go_ret2;exact⟨rfl,b13⟩
  ·have hts:(str t).size≤8192:=by omega
   have qoa:Hid (∀W,Calls prog 198 #[.string f] W fun e w'=>e=.returned (.tuple #[.string (str t),.bool true])∧Below W.heap.size W w'):=qb1;have hne:decide (qN t=ps)=false:=by
    simp only[decide_eq_false_iff_not];intro h;exact hi t ⟨by omega,h.symm⟩
   have qwo:=QH (zC t);have dx:=yf t;have zcC:(qN t).length≤1000:=by rw[dx];unfold nsec;omega
   have Hne:=QH hne;have Hx:=QH hx;clear qb1 hsz hne dx hx hi;generalize str t=s at *;go_enter func123,ntmps123;go_wp2_with (go_at_call 178;refine qdr.out.mono ?_);rintro e W1 ⟨rfl,b1⟩;go_wp2_with (go_at_call 198;refine(qoa.out _).mono ?_);rintro e W2 ⟨rfl,b2⟩;have b12:=qa b1 b2;have h2:=QH (HT.out.below b12 hg);clear b1 b2;go_wp2_with (go_at_call 101;refine(fB s _ hts h2.out).mono ?_);rintro e W3 ⟨v,rfl,hown,b3⟩;have b13:=qa b12 b3;rw[qwo.out]at hown;obtain⟨a2,c2,rfl,hlc,hcm,hst,_,_⟩:=hown.view;have qnZ:=HP.out.below b13 (Nat.le_refl _);have qgr:=aP a2 a c2 c (qN t) ps W3 hst qnZ (by omega) (by omega);rw[Hne.out]at qgr;have qwp:=QH qgr;clear b12 b3 hown hst qnZ qgr h2;go_wp2_with (go_at_call 199;refine qwp.out.mono ?_);rintro e W4 ⟨rfl,b4⟩;have b14:=qa b13 b4;clear b13 b4;go_wp2;go_ret2;exact⟨rfl,b14⟩
end Go.Proofs.YtdpbdkacngaemaaGreatDoor
namespace Go.Proofs.YtdpbdkacngaemaaGreatDoor.wi
open _root_.Go.Proofs.Tryz Go.RowKit
def qjZ (s t:ByteArray)(w:World)(e:Ending)(w':World):Prop :=
 e=.returned (.string (str (bl s++bB (bl t))))∧Below w.heap.size w w'
theorem qdy(s t:ByteArray)(w:World)(hs:s.size≤70368744177000)(ht:t.size≤70368744177000) :
    Calls prog 251 #[.string s,.string t] w (qjZ s t w):=by
 have hl:=jM t.size;have hbl:=zn t;have Hbl:=QH hbl;clear hbl;go_enter func251,ntmps251;go_wp2_with (go_at_call 277;refine(qmc t.size _ (by omega)).mono ?_);rintro e W1 ⟨rfl,b1⟩;go_wp2_with (go_at_call 278;refine(qeN t.size _ (by omega)).mono ?_);rintro e W2 ⟨rfl,b2⟩;go_wp2_with (go_at_call 276;refine(kA s W2.heap.size 0 3 [str [UInt8.ofNat (zI t.size).length],str (zI t.size),t] _ ?_ (nA _ _ _ _) (by simp) ?_).mono ?_)
 ·simp
 ·have:=Hbl.out;simp[flat,zC];omega
 ·rintro e W3 ⟨rfl,b3⟩;have b':=qa (zR (qa b1 b2) _) b3;clear b1 b2 b3;go_wp2;go_ret;exact⟨by simp[flat,zC,bB,zx,Hbl.out],b'⟩
end Go.Proofs.YtdpbdkacngaemaaGreatDoor.wi
namespace Go.Proofs.YtdpbdkacngaemaaGreatDoor.jr
open _root_.Go.Proofs.Tryz Go Go.RowKit dk wi
def qG (x:Int):Prop:=-9223372036854775808≤x∧x≤9223372036854775807
def uU (w:World)(a:Option Addr)(l:List Wr):Prop :=
 ∀i (h:i<l.length),∃b o,a=some ⟨b,o,none⟩∧b<w.heap.size∧w.cell? ⟨b,o+i*2,none⟩=some (.int .i64 l[i].1)∧w.cell? ⟨b,o+i*2+1,none⟩=some (.string (str l[i].2))∧qG l[i].1
theorem uU.below{w w':World}{a:Option Addr}{l:List Wr}{B:Nat}(h:uU w a l)(hb:Below B w w')(hB:w.heap.size≤B):uU w' a l:=by
 intro i hi;obtain⟨b,o,h1,h2,h3,h4,h5⟩:=h i hi;refine⟨b,o,h1,Nat.lt_of_lt_of_le h2 hb.size,?_,?_,h5⟩
 ·rw[hb.cell (p:=⟨b,o+i*2,none⟩) (Nat.lt_of_lt_of_le h2 hB)];exact h3
 ·rw[hb.cell (p:=⟨b,o+i*2+1,none⟩) (Nat.lt_of_lt_of_le h2 hB)];exact h4
section
variable {most:Nat} {w:World} {own:Nat→Prop} {p:Nat} {d:DD}
theorem iX (h:zK most w own p d):Calls prog 116 #[.pointer (some ⟨p,0,none⟩)] w fun e w'=>e=.returned (.int .i64 (if d.on then 0 else 6))∧w=w':=by
 obtain⟨h0,m,v,hd⟩:=h;have HO:=QH (qf8 hd);clear h0 hd;cases xc:d.on with
 | true =>
  rw[xc]at HO;go_enter func116,ntmps116;go_wp2_with (go_at_call 39;refine HO.out.mono ?_;rintro e w' ⟨rfl,rfl⟩);go_ret;exact⟨rfl,rfl⟩
 | false =>
  rw[xc]at HO;go_enter func116,ntmps116;go_wp2_with (go_at_call 39;refine HO.out.mono ?_;rintro e w' ⟨rfl,rfl⟩);go_ret;exact⟨rfl,rfl⟩
theorem qam(a c:Nat)(ha:a<2)(w:World):Calls prog 192 #[.agg #[.int .i64 (a:Int),.int .i64 (c:Int)]] w fun e w'=>e=.returned (.int .i64 ((1+a*72:Nat):Int))∧Below w.heap.size w w':=by
 have e1:(1:Int)+(a:Int)*72=((1+a*72:Nat):Int):=by omega
 have ha1:(a:Int)≤1:=by omega
 have E1:=QH e1;clear e1;go_enter func192,ntmps192;go_wp2;go_ret;exact⟨by rw[← E1.out];rfl,(Below.refl _ _).alloc (Nat.le_refl _) _⟩
end
def qeO (l:List Wr)(w:World)(s i:Value)(wr:World):Prop :=
 ∃k:Nat,k≤l.length∧i=.int .i64 (k:Int)∧s=.string (str (zx l.length++((l.take k).map wB).flatten))∧Below w.heap.size w wr
theorem qrX(l:List Wr)(rR:l.length≤60)(h:∀x∈l,0≤x.1∧x.2.length=32)(k:Nat):(zx l.length++((l.take k).map wB).flatten).length≤3009:=by
 have h1:=qA l.length;have h2:=qnl (l.take k) (fun x hx=>(h x (List.mem_of_mem_take hx)).2);have h3:(l.take k).length≤60:=by simp;omega
 simp only[List.length_append];omega
def okT (t:Bt)(w:World)(e:Ending)(w':World):Prop:=e=.returned (.string (str t))∧Below w.heap.size w w'
theorem kA (a:Option Addr)(c:Nat)(l:List Wr)(w:World)(hT:uU w a l)(rR:l.length≤60)(h:∀x∈l,0≤x.1∧x.2.length=32) :
    Calls prog 180 #[.slice a l.length c] w (okT (zq l) w):=by
 have HT:=QH hT;have HL:=QH (qrX l rR h);have HX:=QH h;clear hT h;go_enter func180,ntmps180;go_wp2_with fail;refine(kh ⟨#[]⟩ l.length w (by omega) (by decide)).mono ?_;rintro e W1 ⟨rfl,b1⟩;have B1:=QH b1;clear b1;obtain⟨s1,hs1⟩:=QE (str (bl ⟨#[]⟩++zx l.length));rw[hs1];have dO:=QH hs1;clear hs1;go_wp2_with fail;go_loopw [3,12] (fun s i wr=>qeO l w s i wr) (fun _ i _=>l.length-(intOf i).toNat);case atStart=>exact⟨0,Nat.zero_le _,rfl,by rw[← dO.out];simp[bl],B1.out⟩
 case round =>
  obtain⟨k,hk,rfl,rfl,hB⟩:=hrel;have HB:=QH hB;clear hB B1;by_cases hlt:k<l.length
  ·obtain⟨b,o,rfl,hb,q0,q1,qb⟩:=HT.out k hlt;have hx:=HX.out l[k] (List.getElem_mem hlt);have hstep:((l.take (k+1)).map wB).flatten=((l.take k).map wB).flatten++wB l[k]:=by rw[List.take_succ_eq_append_getElem hlt,List.map_append,List.flatten_append];simp
   have HST:=QH hstep;have HLk:=QH (HL.out k);clear hstep;generalize hxx:l[k]=x at *;obtain⟨n,hn⟩:=Int.eq_ofNat_of_zero_le hx.1;have e0:wr.cell? ⟨b,o+k*2,none⟩=some (.int .i64 (n:Int)):=by rw[HB.out.cell (p:=⟨b,o+k*2,none⟩) hb,q0,hn]
   have e1:wr.cell? ⟨b,o+k*2+1,none⟩=some (.string (str x.2)):=by rw[HB.out.cell (p:=⟨b,o+k*2+1,none⟩) hb];exact q1
   have q5I:(n:Int)≤9223372036854775807:=by have:=qb.2;omega
   have hb2:b<wr.heap.size:=Nat.lt_of_lt_of_le hb HB.out.size;obtain⟨S,hS⟩:=QE (str (zx l.length++((l.take k).map wB).flatten));have hSs:S.size≤3009:=by rw[← hS,qQ];exact HLk.out
   rw[hS];have HS:=QH hS;have HX2:=QH hx.2;have HN:=QH hn;have qb2:(k:Int)<(l.length:Int):=by omega
   clear q0 q1 qb hS hn hx hxx;go_wp2_with fail;refine(kh S n _ (by omega) (by omega)).mono ?_;rintro e W2 ⟨rfl,b2⟩;have hA:qd (wr.alloc (.cells #[.int .i64 (n:Int),.string (str x.2)] 105)) wr.heap.size _ _:=qd.new wr _ _;have hA2:qd W2 wr.heap.size _ _:=hA.of_block (b2.block _ hA.lt);have q2:=hA2.cell 1;have lt2:=hA2.lt;have B2:=QH (qa (HB.out.alloc HB.out.size _) b2);clear b2 hA hA2;obtain⟨S2,hS2⟩:=QE (str (bl S++zx n));have hl9:=qA n;have q5J:S2.size≤3020:=by rw[← hS2,qQ,List.length_append,zn];omega
   rw[hS2];have kT:=QH hS2;clear hS2;go_wp2_with fail;refine(qdy S2 (str x.2) _ (by omega) (by rw[qQ,HX2.out];omega)).mono ?_;rintro e W3 ⟨rfl,b3⟩;have B3:=QH (qa B2.out b3);clear b3 B2;obtain⟨S3,hS3⟩:=QE (str (bl S2++bB (bl (str x.2))));rw[hS3];have mO:=QH hS3;clear hS3;go_wp2_with fail;go_roundw;case rel =>
    refine⟨k+1,by omega,by go_num,?_,B3.out⟩;rw[← mO.out,← kT.out,← HS.out,HST.out,zC,zC,zC];have:x.1.toNat=n:=by rw[HN.out];rfl
    simp[wB,this]
   case measure=>simp[intOf];omega
  ·obtain rfl:k=l.length:=by omega
   go_wp2_with fail;go_ret;refine⟨?_,HB.out⟩;rw[List.take_length];rfl
end Go.Proofs.YtdpbdkacngaemaaGreatDoor.jr
namespace Go.Proofs.YtdpbdkacngaemaaGreatDoor.jr
open _root_.Go.Proofs.Tryz Go Go.RowKit dk wi
theorem qob:(prog.info? 263).map (fun i=>(i.zero,i.size,i.bytes))=some (some .nilFunc,1,8):=by kernel_rfl
def cH (p:Nat):Value:=.func (.func 194) #[.pointer (some ⟨p,0,none⟩)] #[]
def gA (p:Nat):Value:=.func (.func 195) #[.pointer (some ⟨p,0,none⟩)] #[]
def ay (gw gi:Nat):Value:=.func (.func 196) #[] #[.pointer (some ⟨gw,0,none⟩),.pointer (some ⟨gi,0,none⟩)]
def lW (w:World)(B p:Nat):Step→Value→Prop
 | .f,v=>v=gA p
 | .w k x,v=>∃gw gi,v=ay gw gi∧B≤gw∧B≤gi∧qd w gw 46 #[cH p]∧qd w gi 105 #[.int .i64 k,.string (str x)]
def az (w:World)(B p:Nat)(ss:List Step)(vs:List Value):Prop:=ss.length=vs.length∧∀(j:Nat) (s:Step) (v:Value),ss[j]?=some s→vs[j]?=some v→lW w B p s v
def kO (w w':World):Prop:=∀g t cs,t≠263→qd w g t cs→qd w' g t cs
theorem kO.below{w w':World}(h:Below w.heap.size w w'):kO w w':=fun _ _ _ _ hb=>hb.of_block (h.block _ hb.lt)
theorem kO.trans{a b c:World}(h:kO a b)(k:kO b c):kO a c:=fun g t cs ht hb=>k g t cs ht (h g t cs ht hb)
theorem kO.grown{w w':World}{B n:Nat}{v:Value}{xs:List Value}(ho:w.ownsRow B 263 1 v n xs)(h:w.grownBy w' v.ownBlock):kO w w':=fun g t cs ht hb=>by
 refine hb.of_block (h.block g hb.lt ?_);rcases ho.2 with⟨rfl,_⟩|⟨q,cap,cur,rfl,_,hh,_⟩
 ·simp[Value.ownBlock]
 ·simp only[Value.ownBlock,Option.some.injEq,ne_eq];rintro rfl;unfold qd at hb;rw[hb]at hh;simp only[Option.some.injEq,Obj.cells.injEq]at hh;exact ht hh.2.1
theorem lW.keep{w w':World}{B p:Nat}{s:Step}{v:Value}(h:lW w B p s v)(hk:kO w w'):lW w' B p s v:=by
 cases s with
 | f=>exact h
 | w k x =>
  obtain⟨gw,gi,h1,h2,h3,h4,h5⟩:=h;exact⟨gw,gi,h1,h2,h3,hk _ _ _ (by decide) h4,hk _ _ _ (by decide) h5⟩
theorem az.keep{w w':World}{B p:Nat}{ss:List Step}{vs:List Value}(h:az w B p ss vs)(hk:kO w w'):az w' B p ss vs:=⟨h.1,fun j s v hs hv=>(h.2 j s v hs hv).keep hk⟩
theorem az.snoc{w:World}{B p:Nat}{ss:List Step}{vs:List Value}{s:Step}{v:Value}(h:az w B p ss vs)(hs:lW w B p s v):az w B p (ss++[s]) (vs++[v]):=by
 refine⟨by simp[h.1],fun j t u ht hu=>?_⟩;by_cases hj:j<ss.length
 ·rw[List.getElem?_append_left hj]at ht;rw[List.getElem?_append_left (by rw[← h.1];exact hj)]at hu;exact h.2 j t u ht hu
 ·rw[List.getElem?_append_right (by omega)]at ht;rw[List.getElem?_append_right (by rw[← h.1];omega)]at hu;rw[h.1]at ht;cases hq:j-vs.length with
  | zero =>
   rw[hq]at ht hu;simp at ht hu;subst ht hu;exact hs
  | succ m =>
   rw[hq]at ht;simp at ht
def qdz (w:World)(a:Option Addr)(bs:List (List Wr)):Prop :=
 ∀i (h:i<bs.length),∃b o A c,a=some ⟨b,o,none⟩∧b<w.heap.size∧w.cell? ⟨b,o+i,none⟩=some (.slice A bs[i].length c)∧uU w A bs[i]
theorem qb3(bs:List (List Wr))(k:Nat)(h:k<bs.length):qH (bs.take (k+1))=qH (bs.take k)++(kd bs[k]++[.f]):=by
 have key:∀(x y:List (List Wr)),qH (x++y)=qH x++qH y:=by
  intro x y
  induction x with
  | nil=>rfl
  | cons l r ih=>simp[qH,ih]
 rw[List.take_succ_eq_append_getElem h,key];simp[qH]
theorem qka(l:List Wr)(k:Nat)(h:k<l.length):kd (l.take (k+1))=kd (l.take k)++[.w l[k].1 l[k].2]:=by
 unfold kd;rw[List.take_succ_eq_append_getElem h,List.map_append];rfl
theorem quk(l:List Wr):(kd l).length=l.length:=by simp[kd]
theorem lX:∀(bs:List (List Wr)),(∀l∈bs,l.length≤1000)→(qH bs).length≤1001*bs.length
 | [],_=>by simp[qH]
 | l::r,h=>by
  have h1:=h l (by simp);have h2:=lX r (fun m hm=>h m (by simp[hm]));simp only[qH,List.length_append,List.length_cons,quk];omega
def sH (w:World)(p:Nat)(ss:List Step)(v:Value)(wr:World):Prop :=
 ∃vs,wr.ownsRow w.heap.size 263 1 v vs.length vs∧az wr w.heap.size p ss vs∧qd wr w.heap.size 46 #[cH p]∧Below w.heap.size w wr
def qwr (w:World)(p:Nat)(bs:List (List Wr))(v i:Value)(wr:World):Prop :=
 ∃k:Nat,k≤bs.length∧i=.int .i64 (k:Int)∧sH w p (qH (bs.take k)) v wr
def q0L (w:World)(p:Nat)(pre:List Step)(l:List Wr)(v i:Value)(wr:World):Prop :=
 ∃k:Nat,k≤l.length∧i=.int .i64 (k:Int)∧sH w p (pre++kd (l.take k)) v wr
def qrY (p:Nat)(ss:List Step)(w:World)(e:Ending)(w':World):Prop:=∃v,e=.returned v∧sH w p ss v w'
theorem fG (w:World)(t:TypeId)(v:Value):∀(j:Nat) (u:Value),([v]:List Value)[j]?=some u→(w.alloc (.cells #[v] t)).cell? ((⟨w.heap.size,0,none⟩:Addr).add j)=some u:=by
 intro j u hj
 match j,hj with
 | 0,hj =>
  simp at hj;subst hj;rw[addr_add];exact(qd.new w t #[v]).cell 0
theorem qib(f:Fn)(a b:Array Value):∀u∈([Value.func f a b]:List Value),u.oneCell'=true:=by
 intro u hu;simp at hu;subst hu;rfl
theorem sH.more{w wr w1:World}{p:Nat}{ss:List Step}{v':Value}{vs:List Value}{s:Step}{u:Value}(hs:az wr w.heap.size p ss vs)(hk:qd wr w.heap.size 46 #[cH p])
    (ax:kO wr w1) (hu:lW w1 w.heap.size p s u) (hown:w1.ownsRow w.heap.size 263 1 v' (vs.length+1) (vs++[u])) (hB:Below w.heap.size w w1):sH w p (ss++[s]) v' w1 :=
 ⟨vs++[u],by rw[List.length_append];exact hown,(hs.keep ax).snoc hu,ax _ _ _ (by decide) hk,hB⟩
theorem aA (p:Nat)(a:Option Addr)(c:Nat)(bs:List (List Wr))(w:World)(hp:p<w.heap.size)(hT:qdz w a bs)(hl:bs.length≤10)(hl2:∀l∈bs,l.length≤1000) :
    Calls prog 121 #[.pointer (some ⟨p,0,none⟩),.slice a bs.length c] w (qrY p (qH bs) w):=by
 obtain⟨i0,hi,hz0,hz1,hz2⟩:=info_parts qob;have HT:=QH hT;have ie:=QH hl2;clear hT hl2;go_enter func121,ntmps121;go_wp2_with fail;have k0:qd (w.alloc (.cells #[cH p] 46)) w.heap.size _ _:=qd.new w _ _;have b0:Below w.heap.size w (w.alloc (.cells #[cH p] 46)):=(Below.refl w.heap.size w).alloc (Nat.le_refl _) _;go_loopw [7,18] (fun v i wr=>qwr w p bs v i wr) (fun _ i _=>bs.length-(intOf i).toNat);case atStart=>exact⟨0,Nat.zero_le _,rfl,[],World.ownsRow_nil _ _ _ _,⟨rfl,fun j s v h=>by simp[qH]at h⟩,k0,b0⟩
 case round =>
  clear k0 b0;obtain⟨k,hk,rfl,hg⟩:=hrel;have HG:=QH hg;clear hg;by_cases hlt:k<bs.length
  ·obtain⟨b,o,A,cc,rfl,hb,hc,hW⟩:=HT.out k hlt;have hst:=qb3 bs k hlt;have hlen:=ie.out bs[k] (List.getElem_mem hlt);generalize bs[k]=l at *;have hc2:wr.cell? ⟨b,o+k,none⟩=some (.slice A l.length cc):=by obtain⟨_,_,_,_,hB⟩:=HG.out;rw[hB.cell (p:=⟨b,o+k,none⟩) hb];exact hc
   have hb2:b<wr.heap.size:=by obtain⟨_,_,_,_,hB⟩:=HG.out;exact Nat.lt_of_lt_of_le hb hB.size
   have qb2:(k:Int)<(bs.length:Int):=by omega
   have HW:=QH hW;have HST:=QH hst;clear hc hW hst;go_wp2_with fail;obtain⟨wo,rfl⟩:∃wo:World,wo=wr:=⟨_,rfl⟩;go_loopw [7,24] (fun v i wr=>q0L w p (qH (bs.take k)) l v i wr) (fun _ i _=>l.length-(intOf i).toNat);case atStart=>exact⟨0,Nat.zero_le _,rfl,by simpa[kd]using HG.out⟩
   case round =>
    obtain⟨j,hj,rfl,vs,hown,hsv,hk5,hB⟩:=hrel;have HO:=QH hown;have HS:=QH hsv;have HK:=QH hk5;have HB:=QH hB;clear hown hsv hk5 hB;have hvl:vs.length≤100000:=by
     have h1:=HS.out.1;have h2:=lX (bs.take k) (fun m hm=>ie.out m (List.mem_of_mem_take hm));have h3:(bs.take k).length≤10:=by simp;omega
     have h4:(kd (l.take j)).length≤1000:=by rw[quk];simp;omega
     rw[List.length_append]at h1;omega
    by_cases hjl:j<l.length
    ·obtain⟨bb,oo,rfl,hbb,q0,q1,qb⟩:=HW.out j hjl;have sB:=qka l j hjl;generalize l[j]=x at *;have e0:wr.cell? ⟨bb,oo+j*2,none⟩=some (.int .i64 x.1):=by rw[HB.out.cell (p:=⟨bb,oo+j*2,none⟩) hbb];exact q0
     have e1:wr.cell? ⟨bb,oo+j*2+1,none⟩=some (.string (str x.2)):=by rw[HB.out.cell (p:=⟨bb,oo+j*2+1,none⟩) hbb];exact q1
     have q5L:bb<wr.heap.size:=Nat.lt_of_lt_of_le hbb HB.out.size;have qws:(j:Int)<(l.length:Int):=by omega
     have HWS:=QH sB;have hB1:Below w.heap.size w (wr.alloc (.cells #[.int .i64 x.1,.string (str x.2)] 105)):=HB.out.alloc HB.out.size _;have hB2:Below w.heap.size w ((wr.alloc (.cells #[.int .i64 x.1,.string (str x.2)] 105)).alloc (.cells #[ay w.heap.size wr.heap.size] 263)):=hB1.alloc hB1.size _;have hown2:=(HO.out.alloc (.cells #[.int .i64 x.1,.string (str x.2)] 105)).alloc (.cells #[ay w.heap.size wr.heap.size] 263);have hnews:=fG (wr.alloc (.cells #[.int .i64 x.1,.string (str x.2)] 105)) 263 (ay w.heap.size wr.heap.size);have qd0:(wr.alloc (.cells #[.int .i64 x.1,.string (str x.2)] 105)).heap.size=wr.heap.size+1:=by simp
     rw[qd0]at hnews;have ue:=QH hown2;have au:=QH hnews;have qC:=QH hB2;have hkp:kO wr ((wr.alloc (.cells #[.int .i64 x.1,.string (str x.2)] 105)).alloc (.cells #[ay w.heap.size wr.heap.size] 263)):=kO.below ((zR (Below.refl _ wr) _).alloc (by simp) _);have hgi:qd ((wr.alloc (.cells #[.int .i64 x.1,.string (str x.2)] 105)).alloc (.cells #[ay w.heap.size wr.heap.size] 263)) wr.heap.size 105 #[.int .i64 x.1,.string (str x.2)]:=(qd.new wr _ _).of_block (Below.heap_alloc _ _ _ (by simp));have HKP:=QH hkp;have HGI:=QH hgi;clear q0 q1 qb sB hB1 hB2 hown2 hnews qd0 hkp hgi;go_wp2_with (at_builtin;refine wpList_append_own _ rfl (.tmp 28) (.tmp 30) 195 rfl w.heap.size 263 i0 .nilFunc 1 8 underlying195 hi hz0 hz1 hz2 rfl (by decide) _ vs.length _ rfl ue.out ⟨wr.heap.size+1,0,none⟩ 1 1 [ay w.heap.size wr.heap.size] rfl rfl au.out (qib _ _ _) ?_ ?_ qC.out.size ?_)
     ·unfold maxLen;omega
     ·omega
     ·intro v' w1 hown1 hgrow _;have qkb:=HKP.out.trans (kO.grown ue.out hgrow);have hb1:=qC.out.grown hgrow qC.out.size (fun j hj=>(ue.out.lt j hj).1);have q0M:lW w1 w.heap.size p (.w x.1 x.2) (ay w.heap.size wr.heap.size):=⟨_,_,rfl,Nat.le_refl _,HB.out.size,qkb _ _ _ (by decide) HK.out,kO.grown ue.out hgrow _ _ _ (by decide) HGI.out⟩;have hgm:=sH.more HS.out HK.out qkb q0M hown1 hb1;have HGM:=QH hgm;clear qkb hb1 q0M hgm hown1 hgrow;go_wp2_with fail;go_roundw;case rel=>exact⟨j+1,by omega,by go_num,by rw[HWS.out,← List.append_assoc];exact HGM.out⟩
      case measure=>simp[intOf];omega
    ·obtain rfl:j=l.length:=by omega
     have hB2:Below w.heap.size w (wr.alloc (.cells #[gA p] 263)):=HB.out.alloc HB.out.size _;have hown2:=HO.out.alloc (.cells #[gA p] 263);have hnews:=fG wr 263 (gA p);have ue:=QH hown2;have au:=QH hnews;have qC:=QH hB2;have HKP:=QH (kO.below (zR (Below.refl _ wr) (.cells #[gA p] 263)));clear hB2 hown2 hnews;go_wp2_with (at_builtin;refine wpList_append_own _ rfl (.tmp 33) (.tmp 35) 195 rfl w.heap.size 263 i0 .nilFunc 1 8 underlying195 hi hz0 hz1 hz2 rfl (by decide) _ vs.length _ rfl ue.out ⟨wr.heap.size,0,none⟩ 1 1 [gA p] rfl rfl au.out (qib _ _ _) ?_ ?_ qC.out.size ?_)
     ·unfold maxLen;omega
     ·omega
     ·intro v' w1 hown1 hgrow _;have qkb:=HKP.out.trans (kO.grown ue.out hgrow);have hb1:=qC.out.grown hgrow qC.out.size (fun j hj=>(ue.out.lt j hj).1);have hgm:=sH.more (s:=.f) HS.out HK.out qkb rfl hown1 hb1;have HGM:=QH hgm;clear qkb hb1 hgm hown1 hgrow;go_wp2_with fail;go_roundw;case rel=>exact⟨k+1,by omega,by go_num,by rw[HST.out];have:=HGM.out;rw[List.take_length,List.append_assoc]at this;exact this⟩
      case measure=>simp[intOf];omega
  ·obtain rfl:k=bs.length:=by omega
   go_wp2_with fail;go_ret;have:=HG.out;rw[List.take_length]at this;exact⟨_,rfl,this⟩
def qic (w:World)(B p:Nat)(a:Option Addr)(ss:List Step):Prop :=
 ∀(j:Nat) (s:Step),ss[j]?=some s→∃b v,a=some ⟨b,0,none⟩∧B≤b∧b<w.heap.size∧w.cell? ⟨b,j,none⟩=some v∧lW w B p s v
theorem sH.view{w wr:World}{p:Nat}{ss:List Step}{v:Value}(h:sH w p ss v wr):∃a c,v=.slice a ss.length c∧qic wr w.heap.size p a ss:=by
 obtain⟨vs,ho,hs,_,_⟩:=h;rcases ho.2 with⟨rfl,h0⟩|⟨g,cap,cur,rfl,hg,hh,hcc,hm,hcs,xg⟩
 ·have hn:ss=[]:=List.length_eq_zero_iff.1 (by rw[hs.1];exact h0);subst hn;exact⟨none,0,rfl,fun j s h=>by simp at h⟩
 ·refine⟨some ⟨g,0,none⟩,cap,by rw[hs.1],fun j s hj=>?_⟩;have hjl:j<ss.length:=(List.getElem?_eq_some_iff.1 hj).1;have hjv:j<vs.length:=by rw[← hs.1];exact hjl
  have hv:vs[j]?=some vs[j]:=List.getElem?_eq_getElem hjv;refine⟨g,vs[j],rfl,hg,(Array.getElem?_eq_some_iff.1 hh).1,?_,hs.2 j s _ hj hv⟩;have:=cell_of_row wr g j cur 263 (0,0) hh;rw[this];have h2:cur.toList[j]?=some vs[j]:=by
   have h3:(cur.toList.take (vs.length*1))[j]?=some vs[j]:=by rw[xg];exact hv
   rw[List.getElem?_take]at h3;split at h3
   ·exact h3
   ·cases h3
  simpa using h2
section
variable {most:Nat} {w:World} {G:Nat→Prop} {p:Nat} {d:DD}
theorem qod(hI:InG most w G p d)(hG:∀k,w.heap.size≤k→G k)(hm:d.more.length<most)(jc:most≤100000)(k:Int)(x:Bt)(gw gi:Nat)(hw:qd w gw 46 #[cH p])(hi:qd w gi 105 #[.int .i64 k,.string (str x)]) :
    Calls prog 196 #[.pointer (some ⟨gw,0,none⟩),.pointer (some ⟨gi,0,none⟩)] w (py most G p (d.write k x).2 (.int .i64 (d.write k x).1) w):=by
 have e0:=hw.cell 0;have l0:=hw.lt;have e1:=hi.cell 0;have e2:=hi.cell 1;have l1:=hi.lt;have HI:=QH hI;unfold cH at e0;clear hw hi hI;go_enter func196,ntmps196;go_wp2_with fail;refine(qrV HI.out hG hm jc k (str x) x (zC x) _ _ rfl rfl).mono ?_;rintro e W1 ⟨rfl,i1,b1⟩;have H1:Hid (InG most W1 G p (d.write k x).2∧qB G w W1):=⟨i1,b1⟩;clear i1 b1;go_wp2_with fail;go_ret;exact⟨rfl,H1.out⟩
theorem qgs(d:DD)(s:Step):(ke d s).2.more.length≤d.more.length+1:=by
 cases s with
 | w k v=>exact qfG d k v
 | f =>
  have ho:=(xU d).2.1;unfold ke DD.flush;dsimp only;split
  ·simp
  ·split <;> simp[ho]
def qwt (most:Nat)(w:World)(G:Nat→Prop)(p:Nat)(ss:List Step)(d:DD)(i:Value)(wr:World):Prop :=
 ∃(k:Nat) (e:DD),k≤ss.length∧i=.int .i64 (k:Int)∧InG most wr G p e∧qB G w wr∧dZ ss d=dZ (ss.drop k) e∧e.more.length≤d.more.length+k
theorem qrZ(B:Nat)(ss:List Step)(a:Option Addr)(c:Nat)(hI:InG most w G p d)(hG:∀k,w.heap.size≤k→G k)(q0N:∀k,B≤k→k<w.heap.size→¬ G k)(hs:qic w B p a ss)(hm:d.more.length+ss.length≤most)(jc:most≤100000) :
    Calls prog 120 #[.slice a ss.length c] w (py most G p (dZ ss d).2 (.int .i64 (dZ ss d).1) w):=by
 have HS:=QH hs;have HI:=QH hI;have HG:=QH hG;have HD:=QH q0N;clear hs hI hG q0N;go_enter func120,ntmps120;go_wp2_with fail;go_loopw [8] (fun i wr=>qwt most w G p ss d i wr) (fun i _=>ss.length-(intOf i).toNat);case atStart=>exact⟨0,d,Nat.zero_le _,rfl,HI.out,qB.refl _ _,by rw[List.drop_zero],Nat.le_refl _⟩
 case round =>
  obtain⟨k,e,hk,rfl,hi,hb,hrun,hml⟩:=hrel;have H1:=QH hi;have HB:=QH hb;have HR:=QH hrun;have hG1:∀k,wr.heap.size≤k→G k:=fun j hj=>HG.out j (Nat.le_trans hb.size hj);have HG1:=QH hG1;clear hi hb hrun hG1;by_cases hlt:k<ss.length
  ·have hsk:ss[k]?=some ss[k]:=List.getElem?_eq_getElem hlt;obtain⟨b,v,rfl,hBb,hbl,hcell,hv⟩:=HS.out k ss[k] hsk;have qul:ss.drop k=ss[k]::ss.drop (k+1):=List.drop_eq_getElem_cons hlt;have hsm:=qgs e ss[k];rw[qul]at HR;generalize ss[k]=s at *;have hc1:wr.cell? ⟨b,k,none⟩=some v:=by
    rw[World.cell?_of_block (a:=⟨b,k,none⟩) (HB.out.block b hbl (HD.out b hBb hbl))];exact hcell
   have zcG:b<wr.heap.size:=Nat.lt_of_lt_of_le hbl HB.out.size;have qb2:(k:Int)<(ss.length:Int):=by omega
   have qd2:(∃gw gi,v=ay gw gi∧Calls prog 196 #[.pointer (some ⟨gw,0,none⟩),.pointer (some ⟨gi,0,none⟩)] wr (py most G p (ke e s).2 (.int .i64 (ke e s).1) wr)) ∨
       (v=gA p∧Calls prog 195 #[.pointer (some ⟨p,0,none⟩)] wr (py most G p (ke e s).2 (.int .i64 (ke e s).1) wr)):=by
    cases s with
    | f=>exact .inr ⟨hv,qrW H1.out HG1.out _ _ rfl rfl⟩
    | w kk x =>
     obtain⟨gw,gi,h1,h2,h3,h4,h5⟩:=hv;exact .inl ⟨gw,gi,h1,qod H1.out HG1.out (by omega) jc kk x gw gi (h4.of_block (HB.out.block gw h4.lt (HD.out gw h2 h4.lt))) (h5.of_block (HB.out.block gi h5.lt (HD.out gi h3 h5.lt)))⟩
   have lG:dZ (s::ss.drop (k+1)) e=if (ke e s).1=0 then dZ (ss.drop (k+1)) (ke e s).2 else ke e s:=rfl
   rw[lG]at HR;have HC:=QH qd2;clear qd2 lG hv hcell hsk qul;obtain⟨r,hr⟩:=QE ((ke e s).1);obtain⟨e2,he2⟩:=QE ((ke e s).2);rw[hr,he2]at HC HR;rw[he2]at hsm;have hse:ke e s=(r,e2):=by rw[← hr,← he2]
   rw[hse]at HR;clear hr he2 hse;by_cases h0:r=0
   ·subst h0;rw[if_pos rfl]at HR;rcases HC.out with⟨gw,gi,rfl,hcc⟩|⟨rfl,hcc⟩;all_goals
     have HCC:=QH hcc;clear hcc HC;simp only[ay,gA]at hc1;go_wp2_with fail;refine HCC.out.mono ?_;rintro x W2 ⟨rfl,i2,b2⟩;have H2:=QH i2;have qC:=QH (HB.out.trans b2 (fun i hi=>.inl hi));clear i2 b2;go_wp2_with fail;go_roundw;case rel=>exact⟨k+1,e2,by omega,by go_num,H2.out,qC.out,HR.out,by omega⟩
     case measure=>simp[intOf];omega
   ·have hne:((r:Int) != 0)=true:=by simpa using h0
    rw[if_neg h0]at HR;rcases HC.out with⟨gw,gi,rfl,hcc⟩|⟨rfl,hcc⟩;all_goals
     have HCC:=QH hcc;clear hcc HC;simp only[ay,gA]at hc1;go_wp2_with fail;refine HCC.out.mono ?_;rintro x W2 ⟨rfl,i2,b2⟩;have H2:=QH i2;have qC:=QH (HB.out.trans b2 (fun i hi=>.inl hi));clear i2 b2;go_wp2_with fail;go_ret;rw[HR.out];exact⟨rfl,H2.out,qC.out⟩
  ·obtain rfl:k=ss.length:=by omega
   go_wp2_with fail;go_ret;rw[HR.out,List.drop_length];exact⟨rfl,H1.out,HB.out⟩
end
end Go.Proofs.YtdpbdkacngaemaaGreatDoor.jr
namespace Go.Proofs.YtdpbdkacngaemaaGreatDoor.jr
open _root_.Go.Proofs.Tryz Go Go.RowKit dk wi
theorem wP:(prog.info? 3).map (fun i=>(i.zero,i.size,i.bytes))=some (some (.int .i64 0),1,8):=by kernel_rfl
theorem qoe:(prog.info? 105).map (fun i=>(i.zero,i.size,i.bytes))=some (some (.agg #[.int .i64 0,.string ByteArray.empty]),2,24):=by kernel_rfl
section
variable {most:Nat} {w W1:World} {own:Nat→Prop} {p:Nat} {d:DD} {ss:List Step} {v:Value}
theorem iY (h:zK most w own p d)(hg:sH w p ss v W1)(hm:d.more.length+ss.length≤most)(jc:most≤100000) :
    Calls prog 120 #[v] W1 (xj most own p (dZ ss d).2 (.int .i64 (dZ ss d).1) w):=by
 obtain⟨A,c,rfl,hst⟩:=hg.view;obtain⟨_,_,_,_,hB⟩:=hg;have hI:InG most W1 (fun k=>own k∨W1.heap.size≤k) p d:=⟨own,h.below hB,fun k hk=>.inl hk⟩;refine(qrZ w.heap.size ss A c hI (fun k hk=>.inr hk) (fun k h1 h2 h3=>?_) hst hm jc).mono ?_
 ·rcases h3 with h3|h3
  ·have:=h.low k h3;omega
  ·omega
 ·rintro e W2 ⟨rfl,⟨yK,h1,h2⟩,h3⟩;refine⟨rfl,yK,h1,?_,fun k hk=>?_⟩
  ·refine⟨h3.os.trans hB.os,h3.tape.trans hB.tape,h3.output.trans hB.output,Nat.le_trans hB.size h3.size,fun k hk hn=>?_⟩;rw[h3.block k (Nat.lt_of_lt_of_le hk hB.size) (fun g=>?_),hB.block k hk];rcases g with g|g
   ·exact hn g
   ·have:=hB.size;omega
  ·rcases h2 k hk with g|g
   ·exact .inl g
   ·exact .inr (Nat.le_trans hB.size g)
theorem xj.from{w0 w:World}{r:Value}{e:Ending}{w':World}(h:xj most own p d r w e w')(hb:Below w0.heap.size w0 w)(xB:∀k,own k→k<w0.heap.size):xj most own p d r w0 e w':=by
 obtain⟨rfl,yK,h1,h2,h3⟩:=h;refine⟨rfl,yK,h1,⟨h2.os.trans hb.os,h2.tape.trans hb.tape,h2.output.trans hb.output,Nat.le_trans hb.size h2.size,fun k hk hn=>?_⟩,fun k hk=>?_⟩
 ·rw[h2.block k (Nat.lt_of_lt_of_le hk hb.size) hn,hb.block k hk]
 ·rcases h3 k hk with g|g
  ·exact .inl g
  ·exact .inr (Nat.le_trans hb.size g)
end
def zj (w:World)(B:Nat)(v:Value)(zs:List Int):Prop:=w.ownsRow B 3 1 v zs.length (zs.map (Value.int .i64))
def qof (w:World)(bs:List (List Wr))(v i:Value)(wr:World):Prop :=
 ∃k:Nat,k≤bs.length∧i=.int .i64 (k:Int)∧zj wr w.heap.size v (placesOf (bs.take k))∧Below w.heap.size w wr
def qwu (w:World)(pre:List Int)(l:List Wr)(v i:Value)(wr:World):Prop :=
 ∃k:Nat,k≤l.length∧i=.int .i64 (k:Int)∧zj wr w.heap.size v (pre++(l.take k).map (·.1))∧Below w.heap.size w wr
theorem sI (bs:List (List Wr))(k:Nat)(h:k<bs.length):placesOf (bs.take (k+1))=placesOf (bs.take k)++bs[k].map (·.1):=by
 unfold placesOf;rw[List.take_succ_eq_append_getElem h,List.flatten_append,List.map_append];simp
theorem gB:∀(bs:List (List Wr)),(∀l∈bs,l.length≤1000)→(placesOf bs).length≤1000*bs.length
 | [],_=>by simp[placesOf]
 | l::r,h=>by
  have h1:=h l (by simp);have h2:=gB r (fun m hm=>h m (by simp[hm]));simp only[placesOf,List.flatten_cons,List.map_append,List.length_append,List.length_map,List.length_cons]at h2 ⊢;omega
theorem qsa(z:Int):∀u∈([Value.int .i64 z]:List Value),u.oneCell'=true:=by
 intro u hu;simp at hu;subst hu;rfl
def yu (zs:List Int)(w:World)(e:Ending)(w':World):Prop:=∃v,e=.returned v∧zj w' w.heap.size v zs∧Below w.heap.size w w'
theorem zj.view{w:World}{B:Nat}{v:Value}{zs:List Int}(h:zj w B v zs)(hz:∀z∈zs,qG z):∃a c,v=.slice a zs.length c∧qL w a zs:=by
 rcases h.2 with⟨rfl,h0⟩|⟨g,cap,cur,rfl,hg,hh,hcc,hm,hcs,xg⟩
 ·obtain rfl:zs=[]:=List.length_eq_zero_iff.1 h0;exact⟨none,0,rfl,fun i h=>by simp at h⟩
 ·refine⟨some ⟨g,0,none⟩,cap,rfl,fun i hi=>⟨g,0,rfl,(Array.getElem?_eq_some_iff.1 hh).1,?_,(hz _ (List.getElem_mem hi)).1,(hz _ (List.getElem_mem hi)).2⟩⟩;rw[Nat.zero_add,cell_of_row w g i cur 3 (0,0) hh];have h3:(cur.toList.take (zs.length*1))[i]?=some (.int .i64 zs[i]):=by rw[xg];simp[hi]
  rw[List.getElem?_take]at h3;split at h3
  ·simpa using h3
  ·cases h3
theorem uI (a:Option Addr)(c:Nat)(bs:List (List Wr))(w:World)(hT:qdz w a bs)(hl:bs.length≤10)(hl2:∀l∈bs,l.length≤1000) :
    Calls prog 183 #[.slice a bs.length c] w (yu (placesOf bs) w):=by
 obtain⟨i0,hi,hz0,hz1,hz2⟩:=info_parts wP;have HT:=QH hT;have ie:=QH hl2;clear hT hl2;go_enter func183,ntmps183;go_wp2_with fail;go_loopw [3,10] (fun v i wr=>qof w bs v i wr) (fun _ i _=>bs.length-(intOf i).toNat);case atStart=>exact⟨0,Nat.zero_le _,rfl,World.ownsRow_nil _ _ _ _,Below.refl _ _⟩
 case round =>
  obtain⟨k,hk,rfl,ho0,hB0⟩:=hrel;have HO0:=QH ho0;have jw:=QH hB0;clear ho0 hB0;by_cases hlt:k<bs.length
  ·obtain⟨b,o,A,cc,rfl,hb,hc,hW⟩:=HT.out k hlt;have hst:=sI bs k hlt;have hlen:=ie.out bs[k] (List.getElem_mem hlt);generalize bs[k]=l at *;have hc2:wr.cell? ⟨b,o+k,none⟩=some (.slice A l.length cc):=by rw[jw.out.cell (p:=⟨b,o+k,none⟩) hb];exact hc
   have hb2:b<wr.heap.size:=Nat.lt_of_lt_of_le hb jw.out.size;have qb2:(k:Int)<(bs.length:Int):=by omega
   have HW:=QH hW;have HST:=QH hst;clear hc hW hst;go_wp2_with fail;obtain⟨wo,rfl⟩:∃wo:World,wo=wr:=⟨_,rfl⟩;go_loopw [3,16] (fun v i wr=>qwu w (placesOf (bs.take k)) l v i wr) (fun _ i _=>l.length-(intOf i).toNat);case atStart=>exact⟨0,Nat.zero_le _,rfl,by simpa using HO0.out,jw.out⟩
   case round =>
    obtain⟨j,hj,rfl,hown,hB⟩:=hrel;have HO:=QH hown;have HB:=QH hB;clear hown hB;have hvl:(placesOf (bs.take k)++(l.take j).map (·.1)).length≤100000:=by
     have h2:=gB (bs.take k) (fun m hm=>ie.out m (List.mem_of_mem_take hm));have h3:(bs.take k).length≤10:=by simp;omega
     rw[List.length_append,List.length_map,List.length_take];omega
    by_cases hjl:j<l.length
    ·obtain⟨bb,oo,rfl,hbb,q0,q1,qb⟩:=HW.out j hjl;have sB:(l.take (j+1)).map (·.1)=(l.take j).map (·.1)++[l[j].1]:=by rw[List.take_succ_eq_append_getElem hjl,List.map_append];rfl
     generalize l[j]=x at *;have e0:wr.cell? ⟨bb,oo+j*2,none⟩=some (.int .i64 x.1):=by rw[HB.out.cell (p:=⟨bb,oo+j*2,none⟩) hbb];exact q0
     have e1:wr.cell? ⟨bb,oo+j*2+1,none⟩=some (.string (str x.2)):=by rw[HB.out.cell (p:=⟨bb,oo+j*2+1,none⟩) hbb];exact q1
     have q5L:bb<wr.heap.size:=Nat.lt_of_lt_of_le hbb HB.out.size;have qws:(j:Int)<(l.length:Int):=by omega
     have HWS:=QH sB;have hB1:Below w.heap.size w (wr.alloc (.cells #[.int .i64 x.1,.string (str x.2)] 105)):=HB.out.alloc HB.out.size _;have hB2:Below w.heap.size w ((wr.alloc (.cells #[.int .i64 x.1,.string (str x.2)] 105)).alloc (.cells #[.int .i64 x.1] 3)):=hB1.alloc hB1.size _;have hown2:=(HO.out.alloc (.cells #[.int .i64 x.1,.string (str x.2)] 105)).alloc (.cells #[.int .i64 x.1] 3);have hnews:=fG (wr.alloc (.cells #[.int .i64 x.1,.string (str x.2)] 105)) 3 (.int .i64 x.1);have qd0:(wr.alloc (.cells #[.int .i64 x.1,.string (str x.2)] 105)).heap.size=wr.heap.size+1:=by simp
     rw[qd0]at hnews;have ue:=QH hown2;have au:=QH hnews;have qC:=QH hB2;clear q0 q1 qb sB hB1 hB2 hown2 hnews qd0;generalize hpl:placesOf (bs.take k)++(l.take j).map (·.1)=zs at *;go_wp2_with (at_builtin;refine wpList_append_own _ rfl (.tmp 20) (.tmp 23) 80 rfl w.heap.size 3 i0 (.int .i64 0) 1 8 underlying80 hi hz0 hz1 hz2 rfl (by decide) _ zs.length _ rfl ue.out ⟨wr.heap.size+1,0,none⟩ 1 1 [.int .i64 x.1] rfl rfl au.out (qsa _) ?_ ?_ qC.out.size ?_)
     ·unfold maxLen;omega
     ·omega
     ·intro v' w1 hown1 hgrow _;have hb1:=qC.out.grown hgrow qC.out.size (fun j hj=>(ue.out.lt j hj).1);have ho1:zj w1 w.heap.size v' (zs++[x.1]):=by unfold zj;rw[List.length_append,List.map_append];exact hown1
      have HO1:=QH ho1;have qT:=QH hb1;clear hb1 ho1 hown1 hgrow;go_wp2_with fail;go_roundw;case rel=>exact⟨j+1,by omega,by go_num,by rw[HWS.out,← List.append_assoc,hpl];exact HO1.out,qT.out⟩
      case measure=>simp[intOf];omega
    ·obtain rfl:j=l.length:=by omega
     go_wp2_with fail;go_roundw;case rel=>exact⟨k+1,by omega,by go_num,by rw[HST.out];have:=HO.out;rw[List.take_length]at this;exact this,HB.out⟩
     case measure=>simp[intOf];omega
  ·obtain rfl:k=bs.length:=by omega
   go_wp2_with fail;go_ret;have:=HO0.out;rw[List.take_length]at this;exact⟨_,rfl,this,jw.out⟩
end Go.Proofs.YtdpbdkacngaemaaGreatDoor.jr
namespace Go.Proofs.YtdpbdkacngaemaaGreatDoor.jr
open _root_.Go.Proofs.Tryz Go Go.RowKit dk wi
def zW:List Wr→List Value
 | []=>[]
 | x::r=>.int .i64 x.1 :: .string (str x.2)::zW r
def lY (w:World)(B:Nat)(v:Value)(l:List Wr):Prop:=w.ownsRow B 105 2 v l.length (zW l)
theorem vS:∀(l r:List Wr),zW (l++r)=zW l++zW r
 | [],_=>rfl
 | x::l,r=>by simp[zW,vS l r]
theorem jz:∀l:List Wr,(zW l).length=l.length*2
 | []=>rfl
 | x::l=>by simp[zW,jz l];omega
theorem uV:∀(l:List Wr) (i:Nat) (h:i<l.length),(zW l)[i*2]?=some (.int .i64 l[i].1)∧(zW l)[i*2+1]?=some (.string (str l[i].2))
 | x::l,0,_=>⟨rfl,rfl⟩
 | x::l,i+1,h=>by
  have:=uV l i (by simpa using h);rw[show(i+1)*2=i*2+1+1 from by omega];exact this
theorem lY.view{w:World}{B:Nat}{v:Value}{l:List Wr}(h:lY w B v l)(hz:∀x∈l,qG x.1):∃a c,v=.slice a l.length c∧uU w a l:=by
 rcases h.2 with⟨rfl,h0⟩|⟨g,cap,cur,rfl,hg,hh,hcc,hm,hcs,xg⟩
 ·obtain rfl:l=[]:=List.length_eq_zero_iff.1 h0;exact⟨none,0,rfl,fun i h=>by simp at h⟩
 ·refine⟨some ⟨g,0,none⟩,cap,rfl,fun i hi=>?_⟩;have key:∀(j:Nat) (u:Value),(zW l)[j]?=some u→w.cell? ⟨g,j,none⟩=some u:=by
   intro j u hu;rw[cell_of_row w g j cur 105 (0,0) hh];rw[← xg,List.getElem?_take]at hu;split at hu
   ·simpa using hu
   ·cases hu
  obtain⟨g0,g1⟩:=uV l i hi;exact⟨g,0,rfl,(Array.getElem?_eq_some_iff.1 hh).1,by rw[Nat.zero_add];exact key _ _ g0,by rw[Nat.zero_add];exact key _ _ g1,hz _ (List.getElem_mem hi)⟩
theorem qb4(x:Wr):∀u∈([Value.int .i64 x.1,.string (str x.2)]:List Value),u.oneCell'=true:=by
 intro u hu;simp at hu;rcases hu with rfl|rfl <;> rfl
theorem qog(w:World)(t:TypeId)(v u:Value):∀(j:Nat) (x:Value),([v,u]:List Value)[j]?=some x→(w.alloc (.cells #[v,u] t)).cell? ((⟨w.heap.size,0,none⟩:Addr).add j)=some x:=by
 intro j x hj
 match j,hj with
 | 0,hj =>
  simp at hj;subst hj;rw[addr_add];exact(qd.new w t #[v,u]).cell 0
 | 1,hj =>
  simp at hj;subst hj;rw[addr_add];exact(qd.new w t #[v,u]).cell 1
theorem lY.snoc{w1:World}{B:Nat}{v':Value}{l:List Wr}{x:Wr}(h:w1.ownsRow B 105 2 v' (l.length+1) (zW l++[.int .i64 x.1,.string (str x.2)])):lY w1 B v' (l++[x]):=by
 unfold lY;rw[List.length_append,vS];exact h
theorem qoh{w:World}{B C:Nat}{v:Value}{l:List Wr}(h:lY w B v l)(hc:C≤B):lY w C v l:=by
 refine⟨h.1,?_⟩;rcases h.2 with hn|⟨g,cap,cur,hv,hb,rest⟩
 ·exact .inl hn
 ·exact .inr ⟨g,cap,cur,hv,Nat.le_trans hc hb,rest⟩
def q5P (l:List Wr)(w:World)(e:Ending)(w':World):Prop:=∃v,e=.returned v∧lY w' w.heap.size v l∧Below w.heap.size w w'
def qwv (w:World)(o:Nat)(ss:List Bt)(v i:Value)(wr:World):Prop :=
 ∃k:Nat,k≤ss.length∧i=.int .i64 (k:Int)∧lY wr w.heap.size v (zr o (ss.take k))∧Below w.heap.size w wr
theorem ui (a cnt:Nat)(ha:a<2)(A:Option Addr)(cc:Nat)(ss:List Bt)(w:World)(hT:jf w A ss)(hl:ss.length≤1000) :
    Calls prog 181 #[.agg #[.int .i64 (a:Int),.int .i64 (cnt:Int)],.slice A ss.length cc] w (q5P (lay a ss) w):=by
 obtain⟨i0,hi,hz0,hz1,hz2⟩:=info_parts qoe;have HT:=QH hT;have qkd:=fun(W:World)=>qam a cnt ha W;unfold lay;have q0P:1+a*72≤73:=by omega
 obtain⟨o1,ho1⟩:=QE (1+a*72);rw[ho1]at q0P;simp only[ho1]at qkd;rw[ho1];have HF:=QH qkd;clear ho1 qkd;have kb:qd (w.alloc (.cells #[.int .i64 (a:Int),.int .i64 (cnt:Int)] 188)) w.heap.size _ _:=qd.new w _ _;clear hT;have k0:=kb.lt;have hb0:Below w.heap.size w (w.alloc (.cells #[.int .i64 (a:Int),.int .i64 (cnt:Int)] 188)):=(Below.refl w.heap.size w).alloc (Nat.le_refl _) _;go_enter func181,ntmps181;go_wp2_with fail;obtain⟨w0,hw0⟩:=QE (w.alloc (.cells #[.int .i64 (a:Int),.int .i64 (cnt:Int)] 188));rw[hw0]at kb k0 hb0;rw[hw0];clear hw0;have KB:=QH kb;have jw:=QH hb0;clear kb hb0;go_loopw [5,10] (fun v i wr=>qwv w0 o1 ss v i wr) (fun _ i _=>ss.length-(intOf i).toNat);case atStart=>exact⟨0,Nat.zero_le _,rfl,World.ownsRow_nil _ _ _ _,Below.refl _ _⟩
 case round =>
  obtain⟨k,hk,rfl,ho,hB⟩:=hrel;have HO:=QH ho;have HB:=QH hB;clear ho hB;by_cases hlt:k<ss.length
  ·obtain⟨b,o,rfl,hb,hc⟩:=HT.out k hlt;have hsn:zr o1 (ss.take (k+1))=zr o1 (ss.take k)++[(((o1+k:Nat):Int),ss[k])]:=by
    rw[List.take_succ_eq_append_getElem hlt,cj];simp only[List.length_take];rw[Nat.min_eq_left (by omega)]
   have bE:(zr o1 (ss.take k)).length=k:=by rw[zk];simp;omega
   generalize ss[k]=x at *;have yy:=QH (jw.out.trans (HB.out.mono jw.out.size));have e0:wr.cell? ⟨b,o+k,none⟩=some (.string (str x)):=by rw[yy.out.cell (p:=⟨b,o+k,none⟩) hb];exact hc
   have hb2:b<wr.heap.size:=Nat.lt_of_lt_of_le hb yy.out.size;have hB2:=KB.out.of_block (HB.out.block _ k0);have q0:=hB2.cell 0;have q1:=hB2.cell 1;have lt2:=hB2.lt;have qb2:(k:Int)<(ss.length:Int):=by omega
   have jC:=QH hsn;have gK:=QH bE;clear hc hB2 hsn;go_wp2_with fail;refine(HF.out _).mono ?_;rintro e W1 ⟨rfl,b1⟩;have ho1:W1.ownsRow w0.heap.size 105 2 _ _ _:=zt HO.out (fun j hj=>b1.block j (jP HO.out j hj));have qT:=QH (HB.out.trans (b1.mono HB.out.size));have hown2:=ho1.alloc (.cells #[.int .i64 ((o1:Int)+(k:Int)),.string (str x)] 105);have hnews:=qog W1 105 (.int .i64 ((o1:Int)+(k:Int))) (.string (str x));have ue:=QH hown2;have au:=QH hnews;have qC:=QH (qT.out.alloc qT.out.size (.cells #[.int .i64 ((o1:Int)+(k:Int)),.string (str x)] 105));clear b1 ho1 hown2 hnews q0 q1;have hkb:k≤100000:=by omega
   go_wp2_with (at_builtin;refine wpList_append_own _ rfl (.tmp 15) (.tmp 22) 89 rfl w0.heap.size 105 i0 (.agg #[.int .i64 0,.string ByteArray.empty]) 2 24 underlying89 hi hz0 hz1 hz2 rfl (by decide) _ (zr o1 (ss.take k)).length _ rfl ue.out ⟨W1.heap.size,0,none⟩ 1 1 [.int .i64 ((o1:Int)+(k:Int)),.string (str x)] rfl rfl au.out (qb4 (((o1:Int)+(k:Int)),x)) ?_ ?_ qC.out.size ?_)
   ·rw[gK.out];unfold maxLen;omega
   ·rw[gK.out];omega
   ·intro v' w1 hown1 hgrow _;have hb1:=qC.out.grown hgrow qC.out.size (fun j hj=>(ue.out.lt j hj).1);have hos:=lY.snoc (w1:=w1) (B:=w0.heap.size) (v':=v') (l:=zr o1 (ss.take k)) (x:=((o1:Int)+(k:Int),x)) (by rw[gK.out];exact hown1);have HOS:=QH hos;have zB:=QH hb1;clear hb1 hos hown1 hgrow;go_wp2_with fail;go_roundw;case rel=>exact⟨k+1,by omega,by go_num,by rw[jC.out];exact HOS.out,zB.out⟩
    case measure=>simp[intOf];omega
  ·obtain rfl:k=ss.length:=by omega
   go_wp2_with fail;go_ret;have:=HO.out;rw[List.take_length]at this;refine⟨_,rfl,?_,jw.out.trans (HB.out.mono jw.out.size)⟩;exact qoh this jw.out.size
end Go.Proofs.YtdpbdkacngaemaaGreatDoor.jr
namespace Go.Proofs.YtdpbdkacngaemaaGreatDoor.vt.pg
open _root_.Go.Proofs.Tryz Go Go.RowKit ib mt im sp
abbrev Wr:=jr.Wr
theorem qb5:(prog.info? 105).map (fun i=>(i.zero,i.size,i.bytes))=some (some (.agg #[.int .i64 0,.string ByteArray.empty]),2,24):=by kernel_rfl
def wz (n:Nat):List Value:=jr.zW (List.replicate n (0,[]))
theorem qoj(n:Nat):(wz n).length=n*2:=by unfold wz;rw[jr.jz,List.length_replicate]
theorem qww(n:Nat):madeCells #[.int .i64 0,.string ByteArray.empty] (n*2)=(wz n).toArray:=by
 apply Array.ext
 ·rw[size_madeCells,List.size_toArray,qoj]
 ·intro j h1 h2;have hj:j<n*2:=by simpa[qoj]using h2
  have hm:j%2<2:=Nat.mod_lt _ (by omega);have hg:=jr.uV (List.replicate n ((0:Int),([]:List UInt8))) (j/2) (by simp;omega);rw[List.getElem_replicate]at hg;have e2:(wz n).toArray[j]?=some (if j%2=0 then .int .i64 0 else .string (str [])):=by
   rw[List.getElem?_toArray];unfold wz;by_cases h0:j%2=0
   ·rw[if_pos h0];have:=hg.1;rw[show j/2*2=j by omega]at this;exact this
   ·rw[if_neg h0];have:=hg.2;rw[show j/2*2+1=j by omega]at this;exact this
  rw[Array.getElem?_eq_getElem h2]at e2;rw[Option.some.inj e2];obtain⟨q,hq⟩:=QE (j%2);rw[hq]at hm ⊢
  match q,hm with
  | 0,_=>simp[madeCells,hq]
  | 1,_=>simp[madeCells,hq];rfl
theorem qgt{ρ:Operand→Value}{o:Oper}{w:World}(x y:Operand)(n:Nat)(ho:o.op=.makeSlice 89 x y)(hx:ρ x=.int .i64 (n:Int))(hy:ρ y=.int .i64 (n:Int))(h:n≤1000) :
    (execOp ρ o).run prog w=.ok (.value (.slice (some ⟨w.heap.size,0,none⟩) n n)) (w.alloc (.cells (wz n).toArray 105)):=by
 obtain⟨i0,hi,hz0,hz1,hz2⟩:=info_parts qb5;have hmk:=run_make (P:=prog) w 89 105 i0 (.agg #[.int .i64 0,.string ByteArray.empty]) underlying89 hi hz0 .i64 .i64 (n:Int) (n:Int) (by omega) (Int.le_refl _) (by rw[hz2];omega) (by omega);rw[hz1]at hmk;have:(Instr.makeSlice 89 (.int .i64 (n:Int)) (.int .i64 (n:Int))).run prog w=.ok (.slice (some ⟨w.heap.size,0,none⟩) n n) (w.alloc (.cells (wz n).toArray 105)):=by
  rw[← qww];simpa[Value.cells]using hmk
 simp[execOp,ho,hx,hy,this,Result.andThen]
theorem cI:∀(l:List Wr) (k:Nat) (_:k<l.length) (x:Wr),((jr.zW l).set (k*2) (.int .i64 x.1)).set (k*2+1) (.string (str x.2))=jr.zW (l.set k x)
 | y::l,0,_,x=>rfl
 | y::l,k+1,hk,x=>by
  have ih:=cI l k (by simpa using hk) x;rw[show(k+1)*2=k*2+1+1 by omega];simp only[jr.zW,List.set_cons_succ];exact congrArg _ (congrArg _ ih)
theorem qsb{ss:List Bt}{n k:Nat}(hl:ss.length=n)(hk:k<n):(jr.zr 145 (ss.take k)++List.replicate (n-k) ((0:Int),([]:List UInt8))).set k (((145+k:Nat):Int),ss[k]'(by omega))=jr.zr 145 (ss.take (k+1))++List.replicate (n-(k+1)) ((0:Int),([]:List UInt8)):=by
 have rQ:(jr.zr 145 (ss.take k)).length=k:=by rw[jr.zk,List.length_take];omega
 rw[List.set_append_right _ _ (by omega),rQ,Nat.sub_self,show n-k=(n-(k+1))+1 by omega,List.replicate_succ,List.set_cons_zero,List.take_succ_eq_append_getElem (by omega),jr.cj,List.length_take,Nat.min_eq_left (by omega),List.append_assoc];rfl
def WrR (ss:List Bt)(g:Nat)(w:World)(i:Value)(wr:World):Prop :=
 ∃k:Nat,k≤ss.length∧i=.int .i64 (k:Int)∧qd wr g 105 (jr.zW (jr.zr 145 (ss.take k)++List.replicate (ss.length-k) ((0:Int),([]:List UInt8)))).toArray∧ib.qB (fun j=>j=g) w wr
def q5Q (m:Mt)(w:World)(e:Ending)(w':World):Prop:=∃v,e=.returned (.tuple #[v,.int .i64 0])∧jr.lY w' w.heap.size v (jr.zr 145 (xP m))∧Below w.heap.size w w'
theorem pz {w:World}{A0 A1 A2:Option Addr}{c0 c1 c2:Nat}{m:Mt}(ht:MtL w A0 A1 A2 c0 c1 c2 m)(hsz:mtS m)(hE:gW m=(zD m,0))(q5R:(zD m).length≤999)(hT:xY w) :
    Calls prog 44 #[.agg (zJ A0 A1 A2 c0 c1 c2 m)] w (q5Q m w):=by
 obtain⟨W1,hW1,zX,hb1⟩:=xZ w (zJ A0 A1 A2 c0 c1 c2 m);have qT:=QH hb1;have he:=mt.pg.qhE (.agg (zJ A0 A1 A2 c0 c1 c2 m)) m W1 ⟨A0,A1,A2,c0,c1,c2,rfl,ht.below hb1⟩ hsz;rw[hE]at he;have HE:=QH he;have hPk:∀W,xY W→Calls prog 101 #[.string (str (zD m))] W (qnJ (str (zD m)) W):=fun W h=>fB _ W (by rw[qQ];omega) h;have qah:qN (bl (str (zD m)))=xP m:=by rw[zC];rfl
 obtain⟨S,hS⟩:=QE (str (zD m));rw[hS]at hPk qah;have HPK:=QH hPk;have HSE:=QH qah;have h48:(xP m).length≤48:=by
  unfold xP;rw[yf];unfold nsec;omega
 have HTT:Hid (∀W,Below w.heap.size w W→xY W):=fun W h=>hT.below h hT.1;have q0:=zX.cell 0;have q1:=zX.cell 1;have q2:=zX.cell 2;have q3:=zX.cell 3;have q4:=zX.cell 4;have q5:=zX.cell 5;have q6:=zX.cell 6;have q7:=zX.cell 7;have q8:=zX.cell 8;have lS:=zX.lt;simp only[zJ,QA,QB,QC]at q0 q1 q2 q3 q4 q5 q6 q7 q8;unfold qvc at HE;dsimp only at HE;rw[hS]at HE;clear ht zX hb1 he hPk qah hT hS hsz hE q5R;unfold zJ at hW1 HE ⊢;go_enter func44,ntmps44;go_upto_region 1 with fail;try rw[hW1]
 clear hW1;go_wp2_with fail;refine HE.out.mono ?_;rintro e W2 ⟨rfl,hb2⟩;have qC:=QH (qa qT.out hb2);clear hb2 HE q0 q1 q2 q3 q4 q5 q6 q7 q8 lS;go_wp2_with fail;refine(HPK.out W2 (HTT.out W2 qC.out)).mono ?_;rintro e W3 ⟨v,rfl,ho,hb3⟩;rw[HSE.out]at ho;obtain⟨A,c,hv,_,_,hp,_,_⟩:=ho.view;subst hv;have HP:=QH hp;have zB:=QH (qa qC.out hb3);obtain⟨ss,hss⟩:=QE (xP m);have HM:=QH hss;rw[hss]at HP h48 ⊢;clear ho hp hb3 HSE HPK HTT hss;have hb4:=(Below.refl _ W3).alloc (Nat.le_refl _) (.cells (wz ss.length).toArray 105);have hk4:=qd.new W3 105 (wz ss.length).toArray;obtain⟨W4,ic⟩:=QE (W3.alloc (.cells (wz ss.length).toArray 105));rw[ic]at hb4 hk4;have zT:=QH (qa zB.out hb4);have tG:=QH hk4;have lZ:Hid (∀i (h:i<ss.length),∃b o,A=some ⟨b,o,none⟩∧b<W3.heap.size∧W4.cell? ⟨b,o+i,none⟩=some (.string (str ss[i]))):=fun i hi=>by
  obtain⟨b,o,h1,h2,h3⟩:=HP.out i hi;exact⟨b,o,h1,h2,(hb4.cell (p:=⟨b,o+i,none⟩) h2).trans h3⟩
 have q5T:Hid (W3.heap.size≤W4.heap.size):=hb4.size;have gJ:Hid (w.heap.size≤W3.heap.size):=zB.out.size;clear hb4 hk4 HP;go_wp2_with (at_make;refine qh rfl (qgt _ _ ss.length rfl rfl rfl (by omega)) ?_);try rw[ic]
 clear ic;go_loopw [37] (fun i wr=>WrR ss W3.heap.size W4 i wr) (fun i _=>ss.length-(intOf i).toNat);case atStart=>exact⟨0,Nat.zero_le _,rfl,tG.out,ib.qB.refl _ _⟩
 case round =>
  obtain⟨k,hk,rfl,zy,hB⟩:=hrel;have kX:=QH zy;have HU:=QH hB;have HB:Hid (Below w.heap.size w wr):=zT.out.trans (hB.below (fun i e=>by rw[e];exact gJ.out) zT.out.size);clear zy hB;by_cases hlt:k<ss.length
  ·have yr:(k:Int)<(ss.length:Int):=by omega
   have hk0:¬ (k:Int)<0:=by omega
   obtain⟨b,o,rfl,s1,s2⟩:=lZ.out k hlt;have s0:b<W4.heap.size:=Nat.lt_of_lt_of_le s1 q5T.out;have s3:b<wr.heap.size:=Nat.lt_of_lt_of_le s0 HU.out.size;have s4:=(World.cell?_of_block (a:=⟨b,o+k,none⟩) (HU.out.block b s0 (by show ¬ b=W3.heap.size;omega))).trans s2;have HLS:=QH (qsb (ss:=ss) rfl hlt);have hlen:(jr.zr 145 (ss.take k)++List.replicate (ss.length-k) ((0:Int),([]:List UInt8))).length=ss.length:=by
    rw[List.length_append,jr.zk,List.length_take,List.length_replicate];omega
   have HVS:=QH (cI (jr.zr 145 (ss.take k)++List.replicate (ss.length-k) ((0:Int),([]:List UInt8))) k (by omega) (((145+k:Nat):Int),ss[k]));rw[HLS.out]at HVS;obtain⟨x,hx⟩:=QE (ss[k]);rw[hx]at HVS s4;obtain⟨g0,g1⟩:=jr.uV (jr.zr 145 (ss.take k)++List.replicate (ss.length-k) ((0:Int),([]:List UInt8))) k (by omega);have k0:wr.cell? ⟨W3.heap.size,k*2,none⟩=some (.int .i64 ((jr.zr 145 (ss.take k)++List.replicate (ss.length-k) ((0:Int),([]:List UInt8)))[k]'(by omega)).1):=by rw[kX.out.cell];simpa using g0
   have k1:wr.cell? ⟨W3.heap.size,k*2+1,none⟩=some (.string (str ((jr.zr 145 (ss.take k)++List.replicate (ss.length-k) ((0:Int),([]:List UInt8)))[k]'(by omega)).2)):=by rw[kX.out.cell];simpa using g1
   obtain⟨z0,hz0⟩:∃z,wr.cell? ⟨W3.heap.size,k*2,none⟩=some z:=⟨_,k0⟩;obtain⟨z1,hz1⟩:∃z,wr.cell? ⟨W3.heap.size,k*2+1,none⟩=some z:=⟨_,k1⟩;have f0:=kX.out.frozen (k*2);have f1:=kX.out.frozen (k*2+1);have jX:=kX.out.lt;have HK5:Hid (qd ((wr.setCell ⟨W3.heap.size,k*2,none⟩ (.int .i64 (145+(k:Int)))).setCell ⟨W3.heap.size,k*2+1,none⟩ (.string (str x))) W3.heap.size 105 (jr.zW (jr.zr 145 (ss.take (k+1))++List.replicate (ss.length-(k+1)) ((0:Int),([]:List UInt8)))).toArray):=by
    have h:=(kX.out.qo (k*2) (.int .i64 (145+(k:Int)))).qo (k*2+1) (.string (str x));rw[List.setIfInBounds_toArray,List.setIfInBounds_toArray]at h;rw[← HVS.out];have e:(((145+k:Nat):Int))=145+(k:Int):=by omega
    dsimp only;rw[e];exact h
   have jJ:Hid (ib.qB (fun j=>j=W3.heap.size) W4 ((wr.setCell ⟨W3.heap.size,k*2,none⟩ (.int .i64 (145+(k:Int)))).setCell ⟨W3.heap.size,k*2+1,none⟩ (.string (str x)))):=(HU.out.setCell ⟨W3.heap.size,k*2,none⟩ _ (.inl rfl)).setCell ⟨W3.heap.size,k*2+1,none⟩ _ (.inl rfl);have hw:IntKind.i64.wrap (145+(k:Int))=145+(k:Int):=by rw[IntWalk.i64_in _ (by omega)]
   clear hx hlen HVS HLS g0 g1 k0 k1 s0 s1 s2;go_wp2_with fail;go_roundw;case rel=>exact⟨k+1,by omega,by go_num,HK5.out,jJ.out⟩
   case measure=>simp[intOf];omega
  ·obtain rfl:k=ss.length:=by omega
   have yr:¬ (ss.length:Int)<(ss.length:Int):=by omega
   have zy:=kX.out;rw[List.take_length,Nat.sub_self,List.replicate_zero,List.append_nil]at zy;have HO:Hid (jr.lY wr w.heap.size (.slice (some ⟨W3.heap.size,0,none⟩) ss.length ss.length) (jr.zr 145 ss)):=by
    refine⟨by rw[jr.jz],.inr ⟨W3.heap.size,ss.length,_,by rw[jr.zk],gJ.out,zy,by rw[jr.zk];exact Nat.le_refl _,by unfold maxLen;omega,?_,?_⟩⟩
    ·rw[List.size_toArray,jr.jz,jr.zk]
    ·rw[jr.zk];have:(jr.zW (jr.zr 145 ss)).length=ss.length*2:=by rw[jr.jz,jr.zk]
     show(jr.zW (jr.zr 145 ss)).take (ss.length*2)=_;rw[← this,List.take_length]
   clear zy;go_wp2_with fail;go_ret2;exact⟨_,rfl,by rw[HM.out];exact HO.out,HB.out⟩
def qok (w:World)(k:FuncId)(b:Value)(h:Wr→Bool)(l:List Wr):Prop:=∀W,Below w.heap.size w W→∀x∈l,Calls prog k #[b,.agg #[.int .i64 x.1,.string (str x.2)]] W (uE (h x) W)
structure wL(w:World)(g n c:Nat)(l:List Wr):Prop where
 ex:∃cur,qd w g 105 cur∧cur.size=c*2∧cur.toList.take (n*2)=jr.zW l
 len:l.length=n
 cap:n≤c
theorem wL.cells{w:World}{g n c:Nat}{l:List Wr}(h:wL w g n c l)(i:Nat)(hi:i<l.length):w.cell? ⟨g,i*2,none⟩=some (.int .i64 l[i].1)∧w.cell? ⟨g,i*2+1,none⟩=some (.string (str l[i].2)):=by
 obtain⟨cur,h1,h2,h3⟩:=h.ex;obtain⟨a,b⟩:=jr.uV l i hi;exact⟨vR h1 h3 _ _ a,vR h1 h3 _ _ b⟩
theorem wL.lt{w:World}{g n c:Nat}{l:List Wr}(h:wL w g n c l):g<w.heap.size:=by
 obtain⟨cur,h1,_⟩:=h.ex;exact h1.lt
theorem wL.fro{w:World}{g n c:Nat}{l:List Wr}(h:wL w g n c l)(i:Nat):w.frozen? ⟨g,i,none⟩=false:=by
 obtain⟨cur,h1,_⟩:=h.ex;exact h1.frozen i
theorem wL.below{w w':World}{g n c:Nat}{l:List Wr}(h:wL w g n c l)(hb:Below w.heap.size w w'):wL w' g n c l:=by
 obtain⟨cur,h1,h2,h3⟩:=h.ex;exact⟨⟨cur,h1.below hb,h2,h3⟩,h.len,h.cap⟩
theorem wL.set{w:World}{g n c:Nat}{l:List Wr}(h:wL w g n c l)(i:Nat)(hi:i<l.length)(x:Wr):wL ((w.setCell ⟨g,i*2,none⟩ (.int .i64 x.1)).setCell ⟨g,i*2+1,none⟩ (.string (str x.2))) g n c (l.set i x):=by
 obtain⟨cur,h1,h2,h3⟩:=h.ex;refine⟨⟨_,(h1.qo (i*2) _).qo (i*2+1) _,by simpa using h2,?_⟩,by rw[List.length_set];exact h.len,h.cap⟩;rw[Array.toList_setIfInBounds,Array.toList_setIfInBounds,List.take_set,List.take_set,h3];exact cI l i hi x
theorem wL.ows{w:World}{g n c B:Nat}{l:List Wr}(h:wL w g n c l)(hB:B≤g)(hc:c≤maxLen):jr.lY w B (.slice (some ⟨g,0,none⟩) n c) l:=by
 obtain⟨cur,h1,h2,h3⟩:=h.ex;refine⟨by rw[jr.jz],.inr ⟨g,c,cur,by rw[h.len],hB,h1,by rw[h.len];exact h.cap,hc,h2,by rw[h.len];exact h3⟩⟩
theorem wL.qwx{w:World}{B:Nat}{v:Value}{l:List Wr}(h:jr.lY w B v l)(h1:0<l.length):∃g c,v=.slice (some ⟨g,0,none⟩) l.length c∧B≤g∧wL w g l.length c l∧c≤maxLen:=by
 rcases h.2 with⟨_,h0⟩|⟨g,cap,cur,hv,hg,hh,hcc,hm,hcs,xg⟩
 ·omega
 ·exact⟨g,cap,hv,hg,⟨⟨cur,hh,hcs,xg⟩,rfl,hcc⟩,hm⟩
def IxW (l:List Wr)(h:Wr→Bool)(w:World)(i:Value)(wr:World):Prop :=
 ∃k:Nat,k≤l.length∧i=.int .i64 (k:Int)∧(∀j (hj:j<l.length),j<k→h l[j]=false)∧Below w.heap.size w wr
def q0Q (l:List Wr)(h:Wr→Bool)(w:World)(e:Ending)(w':World):Prop:=Below w.heap.size w w'∧((∃(k:Nat) (hk:k<l.length),e=.returned (.int .i64 (k:Int))∧h l[k]=true∧∀j (hj:j<l.length),j<k→h l[j]=false)∨(e=.returned (.int .i64 (-1))∧∀j (hj:j<l.length),h l[j]=false))
theorem qol{w0 w:World}{g n c:Nat}{b:Value}{h:Wr→Bool}{l:List Wr}(hR:wL w g n c l)(hb:Below w0.heap.size w0 w)(hC:qok w0 141 b h l)(hl:l.length≤1000) :
    Calls prog 223 #[.slice (some ⟨g,0,none⟩) n c,.func (.func 141) #[b] #[]] w (q0Q l h w):=by
 have HR:=QH hR;have jw:=QH hb;have HC:=QH hC;have bE:=hR.len;subst bE;clear hR hb hC;go_enter func223,ntmps223;go_wp2_with fail;go_loopw [8] (fun i wr=>IxW l h w i wr) (fun i _=>l.length-(intOf i).toNat);case atStart=>exact⟨0,Nat.zero_le _,rfl,fun j _ h=>absurd h (by omega),Below.refl _ _⟩
 case round =>
  obtain⟨k,hk,rfl,hno,hB⟩:=hrel;have jZ:=QH hno;have HB:=QH hB;clear hno hB;by_cases hlt:k<l.length
  ·have yr:(k:Int)<(l.length:Int):=by omega
   have hk0:¬ (k:Int)<0:=by omega
   have hr:=HR.out.below HB.out;obtain⟨s0,s1⟩:=hr.cells k hlt;have jX:=hr.lt;have kK:=QH (HC.out wr (qa jw.out HB.out) l[k] (List.getElem_mem hlt));have ia:Hid (h l[k]=false→∀j (hj:j<l.length),j<k+1→h l[j]=false):=fun hne j hj hjk=>by
    by_cases qom:j<k
    ·exact jZ.out j hj qom
    ·obtain rfl:j=k:=by omega
     exact hne
   obtain⟨q,hq⟩:=QE (h l[k]);have HQ:Hid (h l[k]=q):=hq;rw[hq]at kK ia;have HLK:Hid (l[k]=l[k]):=rfl;obtain⟨x,hx⟩:=QE (l[k]);rw[hx]at s0 s1 kK;clear hx HLK;clear hr hq;go_wp2_with fail;refine kK.out.mono ?_;rintro e W1 ⟨rfl,hb1⟩;have qT:=QH (HB.out.trans (hb1.mono HB.out.size));clear hb1;cases q with
   | true =>
    clear ia kK;go_wp2_with fail;go_ret;exact⟨qT.out,.inl ⟨k,hlt,rfl,HQ.out,jZ.out⟩⟩
   | false =>
    have HN:=QH (ia.out rfl);clear ia kK;go_wp2_with fail;go_roundw;case rel=>exact⟨k+1,by omega,by go_num,HN.out,qT.out⟩
    case measure=>simp[intOf];omega
  ·have yr:¬ (k:Int)<(l.length:Int):=by omega
   go_wp2_with fail;go_ret;exact⟨HB.out,.inr ⟨rfl,fun j hj=>jZ.out j hj (by omega)⟩⟩
theorem qgw(w:World)(ty:TypeId)(g o n c:Nat)(cur:Array Value)(hg:qd w g 105 cur)(hn:0<n)(qnp:o+n*2≤cur.size) :
    ∃zs:List Value,zs.length=n*2∧(Builtin.clear_ #[89] ty #[.slice (some ⟨g,o,none⟩) n c]).run prog w=.ok (.tuple #[]) (w.setRow g (cur.toList.take o++zs++cur.toList.drop (o+zs.length)).toArray):=by
 obtain⟨i0,hi,hz0,hz1,hz2⟩:=info_parts qb5;obtain⟨m,rfl⟩:∃m,n=m+1:=⟨n-1,by omega⟩;have hz:(zeroValue 105).run prog w=.ok (.agg #[.int .i64 0,.string ByteArray.empty]) w:=by
  simp[zeroValue,typeInfo,hi,hz0]
 refine⟨(Builtin.zeroCells (Value.agg #[.int .i64 0,.string ByteArray.empty]).cells (m+1)).toList,?_,?_⟩
 ·simp[Builtin.zeroCells,Value.cells]
 ·have hst:=run_storeCells_at prog g o 105 (Builtin.zeroCells (Value.agg #[.int .i64 0,.string ByteArray.empty]).cells (m+1)).toList 0 cur w hg (by simp[Builtin.zeroCells,Value.cells];omega) (by
     intro v hv;simp only[Builtin.zeroCells,Value.cells,Array.toList_map,List.mem_map]at hv;obtain⟨i,_,rfl⟩:=hv;have hm:i%2<2:=Nat.mod_lt _ (by omega);show(#[Value.int .i64 0,.string ByteArray.empty][i%2]!).oneCell'=true;obtain⟨q,hq⟩:=QE (i%2);rw[hq]at hm ⊢
     match q,hm with
     | 0,_=>rfl
     | 1,_=>rfl)
  simp[Builtin.clear_,run_underlying underlying89,hz,Result.andThen];simp at hst;rw[hst]
def bL (h:Wr→Bool)(l:List Wr):List Wr:=l.filter fun x=>!h x
theorem cJ {h:Wr→Bool}{l:List Wr}{j:Nat}(hj:j<l.length):bL h (l.take (j+1))=bL h (l.take j)++(if h l[j]then[]else[l[j]]):=by
 unfold bL;rw[List.take_succ_eq_append_getElem hj,List.filter_append];cases hq:h l[j] <;> simp[hq]
theorem pA {h:Wr→Bool}{l:List Wr}(hn:∀j (hj:j<l.length),h l[j]=false):bL h l=l:=by
 unfold bL;rw[List.filter_eq_self];intro x hx;obtain⟨j,hj,rfl⟩:=List.getElem_of_mem hx;rw[hn j hj];rfl
structure DlS(l K:List Wr)(h:Wr→Bool)(i j:Nat):Prop where
 len:K.length=l.length
 lt:i<j
 le:j≤l.length
 kept:K.take i=bL h (l.take j)
 rest:K.drop j=l.drop j
theorem DlS.at_{l K:List Wr}{h:Wr→Bool}{i j:Nat}(s:DlS l K h i j)(hj:j<l.length)(hk:j<K.length):K[j]=l[j]:=by
 have e:=congrArg (fun x=>x[0]?) s.rest;simp only[List.getElem?_drop,Nat.add_zero]at e;rw[List.getElem?_eq_getElem hj,List.getElem?_eq_getElem hk]at e;exact Option.some.inj e
theorem DlS.q5U{l K:List Wr}{h:Wr→Bool}{i j:Nat}(s:DlS l K h i j)(hj:j<l.length)(hd:h l[j]=true):DlS l K h i (j+1):=by
 refine⟨s.len,by have:=s.lt;omega,by omega,?_,?_⟩
 ·rw[cJ hj,hd,s.kept];simp
 ·have:=congrArg (List.drop 1) s.rest
  rwa [List.drop_drop,List.drop_drop]at this
theorem DlS.keep{l K:List Wr}{h:Wr→Bool}{i j:Nat}(s:DlS l K h i j)(hj:j<l.length)(hd:h l[j]=false):DlS l (K.set i l[j]) h (i+1) (j+1):=by
 have hlt:=s.lt;have hle:=s.len;refine⟨by rw[List.length_set];exact s.len,by omega,by omega,?_,?_⟩
 ·rw[cJ hj,hd,← s.kept];apply List.ext_getElem?;intro k;simp only[List.getElem?_take,List.getElem?_set,List.getElem?_append,List.length_take];by_cases h1:k<i
  ·rw[if_pos (by omega),if_neg (by omega),if_pos (by omega),if_pos h1]
  ·by_cases h2:k=i
   ·subst h2;rw[if_pos (by omega),if_pos rfl,if_pos (by omega),if_neg (by omega),show k-min k K.length=0 by omega];rfl
   ·rw[if_neg (by omega),if_neg (by omega)];obtain⟨q,hq⟩:∃q,k-min i K.length=q+1:=⟨k-min i K.length-1,by omega⟩;rw[hq];rfl
 ·have:=congrArg (List.drop 1) s.rest;rw[List.drop_drop,List.drop_drop]at this;rw[List.drop_set_of_lt (by omega)];exact this
def DlR (l:List Wr)(h:Wr→Bool)(g c:Nat)(w0:World)(i j:Value)(wr:World):Prop :=
 ∃(a b:Nat) (K:List Wr),i=.int .i64 (a:Int)∧j=.int .i64 (b:Int)∧DlS l K h a b∧wL wr g l.length c K∧Below w0.heap.size w0 wr
def qon (l:List Wr)(h:Wr→Bool)(w0:World)(e:Ending)(w':World):Prop:=∃v,e=.returned v∧jr.lY w' w0.heap.size v (bL h l)∧Below w0.heap.size w0 w'
theorem qsc{w0 w:World}{v b:Value}{h:Wr→Bool}{l:List Wr}(ho:jr.lY w w0.heap.size v l)(h1:0<l.length)(hl:l.length≤1000)(hb:Below w0.heap.size w0 w)(hC:qok w0 141 b h l) :
    Calls prog 140 #[v,.func (.func 141) #[b] #[]] w (qon l h w0):=by
 obtain⟨g,c,rfl,hg,hR,hcm⟩:=wL.qwx ho h1;have HI:=QH (qol hR hb hC hl);have HR:=QH hR;have jw:=QH hb;have HC:=QH hC;have HG:=QH hg;have HCM:=QH hcm;clear ho hg hR hcm hb hC;go_enter func140,ntmps140;go_wp2_with fail;refine HI.out.mono ?_;rintro e W1 ⟨hb1,qoo⟩;have qT:=QH (qa jw.out hb1);have uu:=QH (HR.out.below hb1);clear hb1 HI;rcases qoo with⟨k,hk,rfl,hd,hno⟩|⟨rfl,hno⟩
 case' inr =>
  have jZ:=QH (pA hno);clear hno;go_wp2_with fail;go_ret;exact⟨_,rfl,by rw[jZ.out];exact uu.out.ows HG.out HCM.out,qT.out⟩
 have HS0:Hid (DlS l l h k (k+1)):=by
  refine⟨rfl,by omega,by omega,?_,rfl⟩;rw[cJ hk,hd,if_pos rfl,List.append_nil];exact(pA (l:=l.take k) (fun j hj=>by
   have hjk:j<k:=by rw[List.length_take]at hj;omega
   rw[List.getElem_take];exact hno j _ hjk)).symm
 clear hd hno;have hkw:IntKind.i64.wrap ((k:Int)+1)=((k+1:Nat):Int):=by rw[IntWalk.i64_in _ (by omega)];omega
 have hkn:((k:Int) == -1)=false:=beq_false_of_ne (by omega);go_wp2_with fail;go_loopw [5,6] (fun i j wr=>DlR l h g c w0 i j wr) (fun _ j _=>l.length-(intOf j).toNat);case atStart=>exact⟨k,k+1,l,rfl,by go_num,HS0.out,uu.out,qT.out⟩
 case round =>
  obtain⟨a,b',K,rfl,rfl,hs,hr,hB⟩:=hrel;have HS:=QH hs;have HRW:=QH hr;have HB:=QH hB;have hle:=hs.le;have zcK:=hs.lt;have iV:=hs.len;clear hs hr hB;by_cases hlt:b'<l.length
  ·have hbi:(b':Int)<(l.length:Int):=by omega
   have hb0:¬ (b':Int)<0:=by omega
   have hai:(a:Int)<(l.length:Int):=by omega
   have ha0:¬ (a:Int)<0:=by omega
   have hKb:b'<K.length:=by omega
   obtain⟨s0,s1⟩:=HRW.out.cells b' hKb;have HAT:=QH (HS.out.at_ hlt hKb);have qsd:=QH (HS.out.q5U hlt);have qd3:=QH (HS.out.keep hlt);have jX:=HRW.out.lt;rw[HAT.out]at s0 s1;have kK:Hid (∀W,Below w0.heap.size w0 W→Calls prog 141 #[b,.agg #[.int .i64 l[b'].1,.string (str l[b'].2)]] W (uE (h l[b']) W)):=fun W hW=>HC.out W hW l[b'] (List.getElem_mem hlt);obtain⟨q,hq⟩:=QE (h l[b']);rw[hq]at kK qsd qd3;obtain⟨x,hx⟩:=QE (l[b']);rw[hx]at s0 s1 kK qd3;clear hx hq HAT;have vq:=(Below.refl _ wr).alloc (Nat.le_refl _) (.cells #[.int .i64 x.1,.string (str x.2)] 105);have mY:=qd.new wr 105 #[.int .i64 x.1,.string (str x.2)];obtain⟨W2,hW2⟩:=QE (wr.alloc (.cells #[.int .i64 x.1,.string (str x.2)] 105));rw[hW2]at vq mY;have jO:=QH (HRW.out.below vq);have qC:=QH (qa HB.out vq);have HKX:=QH mY;have v0:=mY.cell 0;have v1:=mY.cell 1;have hvl:=mY.lt;simp only[QA,QB,QC]at v0 v1;clear vq mY;go_upto_region 8 with fail;try rw[hW2]
   clear hW2 s0 s1;go_wp2_with fail;refine(kK.out _ qC.out).mono ?_;rintro e W3 ⟨rfl,hb3⟩;have iD:=QH (jO.out.below hb3);have zB:=QH (qa qC.out hb3);have hk3:=HKX.out.below hb3;have v0:=hk3.cell 0;have v1:=hk3.cell 1;have hvl:=hk3.lt;simp only[QA,QB,QC]at v0 v1;have uK:IntKind.i64.wrap ((b':Int)+1)=((b'+1:Nat):Int):=by rw[IntWalk.i64_in _ (by omega)];omega
   clear hb3 kK jO HKX hk3;cases q with
   | true =>
    have HO:=QH (qsd.out rfl);clear qsd qd3;go_wp2_with fail;go_roundw;case rel=>exact⟨a,b'+1,K,rfl,by go_num,HO.out,iD.out,zB.out⟩
    case measure=>simp[intOf];omega
   | false =>
    have HO:=QH (qd3.out rfl);clear qsd qd3;have haK:a<K.length:=by omega
    obtain⟨t0,t1⟩:=iD.out.cells a haK;obtain⟨z0,hz0⟩:∃z,W3.cell? ⟨g,a*2,none⟩=some z:=⟨_,t0⟩;obtain⟨z1,hz1⟩:∃z,W3.cell? ⟨g,a*2+1,none⟩=some z:=⟨_,t1⟩;have f0:=iD.out.fro (a*2);have f1:=iD.out.fro (a*2+1);have jX:=iD.out.lt;have n4:=QH (iD.out.set a haK x);have zT:Hid (Below w0.heap.size w0 ((W3.setCell ⟨g,a*2,none⟩ (.int .i64 x.1)).setCell ⟨g,a*2+1,none⟩ (.string (str x.2)))):=(zB.out.setCell (p:=⟨g,a*2,none⟩) HG.out _).setCell (p:=⟨g,a*2+1,none⟩) HG.out _;have haw:IntKind.i64.wrap ((a:Int)+1)=((a+1:Nat):Int):=by rw[IntWalk.i64_in _ (by omega)];omega
    clear t0 t1;go_wp2_with fail;go_roundw;case rel=>exact⟨a+1,b'+1,_,by go_num,by go_num,HO.out,n4.out,zT.out⟩
    case measure=>simp[intOf];omega
  ·obtain rfl:b'=l.length:=by omega
   have hbi:¬ (l.length:Int)<(l.length:Int):=by omega
   have ha0:(0:Int)≤(a:Int):=by omega
   have hai:(a:Int)≤(l.length:Int):=by omega
   have hac:(a:Int)≤(c:Int):=by have:=HRW.out.cap;omega
   have qd4:=HS.out.kept;rw[List.take_length]at qd4;have HKP:=QH qd4;obtain⟨cur,c1,c2,c3⟩:=HRW.out.ex;have qaH:=HRW.out.cap;have hcl:∀ty,∃W4,(Builtin.clear_ #[89] ty #[.slice (some ⟨g,a*2,none⟩) (l.length-a) (c-a)]).run prog wr=.ok (.tuple #[]) W4∧wL W4 g a c (bL h l)∧Below w0.heap.size w0 W4:=fun ty=>by
    obtain⟨zs,hzl,hrun⟩:=qgw wr ty g (a*2) (l.length-a) (c-a) cur c1 (by omega) (by omega);refine⟨_,hrun,⟨⟨_,tx c1,?_,?_⟩,?_,by omega⟩,wU HB.out _ HG.out⟩
    ·simp[hzl];omega
    ·have hcl:cur.toList.length=c*2:=by simpa using c2
     show(cur.toList.take (a*2)++zs++cur.toList.drop (a*2+zs.length)).take (a*2)=_;rw[List.append_assoc,List.take_append_of_le_length (by rw[List.length_take];omega),List.take_take,Nat.min_self];have h5:jr.zW (K.take a)=(jr.zW K).take (a*2):=by
      have e:jr.zW K=jr.zW (K.take a)++jr.zW (K.drop a):=by rw[← jr.vS,List.take_append_drop]
      rw[e,List.take_left' (by rw[jr.jz,List.length_take];omega)]
     rw[← qd4,h5,← c3,List.take_take]
     congr 1
     omega
    ·rw[← qd4,List.length_take];omega
   obtain⟨W4,hc4,hr4,hb4⟩:=hcl 0;have zcL:∀ty,(Builtin.clear_ #[89] ty #[.slice (some ⟨g,a*2,none⟩) (l.length-a) (c-a)]).run prog wr=.ok (.tuple #[]) W4:=fun ty=>hc4;have n4:=QH hr4;have zT:=QH hb4;have hcc:(l.length:Int)≤(c:Int):=by omega
   clear hc4 hr4 hb4 hcl qd4 c1 c2 c3;go_wp2_with fail;go_ret;exact⟨_,rfl,n4.out.ows HG.out HCM.out,zT.out⟩
end Go.Proofs.YtdpbdkacngaemaaGreatDoor.vt.pg
namespace Go.Proofs
open _root_.Go.Proofs.Tryz Go.Shelf
def Tryz.qd5:Go.Shelf.Ren:=⟨fun | 160=>219 | 232=>262 | 231=>261 | 227=>263 | 234=>265 | 233=>264 | 236=>267 | 235=>266 | 228=>285 | 271=>288 | 151=>287 | 197=>286 | 120=>294 | 152=>293 | 260=>292 | 137=>296 | 119=>297 | 224=>298 | 225=>299 | 217=>300 | 266=>301|n=>n,fun | 9=>9 | 4=>4 | 3=>3 | 5=>5 | 117=>322 | 116=>321 | 0=>0 | 124=>325 | 21=>21 | 105=>342 | 46=>281 | 119=>350 | 139=>353 | 138=>352|n=>n,fun | 3=>2 | 4=>3|n=>n⟩
theorem Tryz.qse:Go.Proofs.Lays.n160 prog Tryz.qd5:={
 mixed:=by kernel_rfl
 f119:=func297.trans (congrArg some (by kernel_rfl))
 f120:=func294.trans (congrArg some (by kernel_rfl))
 f137:=func296.trans (congrArg some (by kernel_rfl))
 f151:=func287.trans (congrArg some (by kernel_rfl))
 f152:=func293.trans (congrArg some (by kernel_rfl))
 f160:=func219.trans (congrArg some (by kernel_rfl))
 f197:=func286.trans (congrArg some (by kernel_rfl))
 f217:=func300.trans (congrArg some (by kernel_rfl))
 f224:=func298.trans (congrArg some (by kernel_rfl))
 f225:=func299.trans (congrArg some (by kernel_rfl))
 f227:=func263.trans (congrArg some (by kernel_rfl))
 f228:=func285.trans (congrArg some (by kernel_rfl))
 f231:=func261.trans (congrArg some (by kernel_rfl))
 f232:=func262.trans (congrArg some (by kernel_rfl))
 f233:=func264.trans (congrArg some (by kernel_rfl))
 f234:=func265.trans (congrArg some (by kernel_rfl))
 f235:=func266.trans (congrArg some (by kernel_rfl))
 f236:=func267.trans (congrArg some (by kernel_rfl))
 f260:=func292.trans (congrArg some (by kernel_rfl))
 f266:=func301.trans (congrArg some (by kernel_rfl))
 f271:=func288.trans (congrArg some (by kernel_rfl))
 t0:=underlying0
 a0:=isAgg0
 z0:=sizeOf0
 v0:=zeroValue0
 t3:=underlying3
 a3:=isAgg3
 z3:=sizeOf3
 v3:=zeroValue3
 t4:=underlying4
 a4:=isAgg4
 z4:=sizeOf4
 v4:=zeroValue4
 t5:=underlying5
 a5:=isAgg5
 z5:=sizeOf5
 v5:=zeroValue5
 t9:=underlying9
 a9:=isAgg9
 z9:=sizeOf9
 v9:=zeroValue9
 t21:=underlying21
 a21:=isAgg21
 z21:=sizeOf21
 v21:=zeroValue21
 t46:=underlying281
 a46:=isAgg281
 z46:=sizeOf281
 v46:=zeroValue281
 t105:=underlying342
 a105:=isAgg342
 z105:=sizeOf342
 v105:=zeroValue342
 t116:=underlying321
 a116:=isAgg321
 z116:=sizeOf321
 t117:=underlying322
 a117:=isAgg322
 z117:=sizeOf322
 v117:=zeroValue322
 t119:=underlying350
 a119:=isAgg350
 z119:=sizeOf350
 t124:=underlying325
 a124:=isAgg325
 z124:=sizeOf325
 v124:=zeroValue325
 t138:=underlying352
 a138:=isAgg352
 z138:=sizeOf352
 v138:=zeroValue352
 t139:=underlying353
 a139:=isAgg353
 z139:=sizeOf353
 v139:=zeroValue353
 g3:=by kernel_rfl
 g4:=by kernel_rfl }
open Go.RowKit in
theorem Tryz.strings_Trim_one(s:ByteArray)(c:UInt8)(hc:c.toNat<128)(w:World)(hs:s.size≤9223372036854775807) :
    Calls prog 219 #[.string s,.string ⟨#[c]⟩] w fun e w'=>e=.returned (.string ⟨(Lib.trimB s.data.toList c).toArray⟩)∧(w'=w∨w'=w.drew):=Any.strings_Trim_one Tryz.qse s c hc w hs
end Go.Proofs
namespace Go.Proofs.YtdpbdkacngaemaaGreatDoor.wi
open _root_.Go.Proofs.Tryz Go.RowKit
theorem qsf(b:Nat)(l:List UInt8)(w:World)(h:zw b l true w) :
    Calls prog 256 #[.pointer (some ⟨b,0,none⟩)] w fun e w'=>e=.returned (.bool false)∧w=w':=by
 go_enter func256,ntmps256;go_wp2_with (go_at_call 280;refine(qmd b l _ h).mono ?_;rintro e w' ⟨rfl,rfl⟩);go_ret;exact⟨rfl,rfl⟩
theorem qop(b:Nat)(l:List UInt8)(w:World)(h:zw b l false w) :
    Calls prog 256 #[.pointer (some ⟨b,0,none⟩)] w fun e w'=>e=.returned (.bool l.isEmpty)∧w=w':=by
 obtain⟨g,o,cap,hb,hr⟩:=h;have h1:w.cell? ⟨b,0,none⟩=some (.slice (some ⟨g,o,none⟩) l.length cap):=by simp[World.cell?,hb]
 have he:((l.length:Int) == 0)=l.isEmpty:=by cases l <;> simp;omega
 have hR:zw b l false w:=⟨g,o,cap,hb,hr⟩;have hlen:l.length≤140737488355328:=hr.2.2;clear hb hr;go_enter func256,ntmps256;go_wp2_with (go_at_call 280;refine(qeR b l _ hR).mono ?_;rintro e w' ⟨rfl,rfl⟩);go_ret;exact⟨rfl,rfl⟩
end Go.Proofs.YtdpbdkacngaemaaGreatDoor.wi
